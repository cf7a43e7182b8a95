package frame_test

import (
	"bytes"
	"encoding/binary"
	"hash/crc32"
	"math"
	"slices"
	"strings"
	"testing"

	"packhorse/api"
	"packhorse/frame"
)

// heads has, of each length that may be, the bytes that tell it.
var heads = func() map[string]int {
	m := map[string]int{}
	for n := range 4001 {
		m[string(binary.AppendVarint(nil, int64(n)))] = n
	}
	return m
}()

// mixed answers n bytes in which all values stand, in no plain order.
func mixed(n int) []byte {
	b := make([]byte, n)
	for i := range b {
		b[i] = byte(i*167 + i>>8*31 + 13)
	}
	return b
}

// withSum answers a head and a body with their sum between them, whether or not there is such a frame.
func withSum(head string, body []byte) []byte {
	b := binary.BigEndian.AppendUint32([]byte(head), crc32.ChecksumIEEE(append([]byte(head), body...)))
	return append(b, body...)
}

// sealed answers the frame of a kind and a body.
func sealed(kind int, body []byte) []byte {
	return withSum(string(binary.AppendVarint([]byte{byte(kind)}, int64(len(body)))), body)
}

// opened is a model of Open.
func opened(b []byte) (int, []byte, int, api.Errno) {
	switch {
	case len(b) == 0:
		return 0, nil, 0, api.ErrMore
	case b[0] == 0:
		return 0, nil, 0, api.ErrCorrupt
	case len(b) == 1 || len(b) == 2 && b[1] >= 128:
		return 0, nil, 0, api.ErrMore
	}
	for size := 1; size <= 2 && size < len(b); size++ {
		n, ok := heads[string(b[1:1+size])]
		if !ok {
			continue
		}
		whole := 1 + size + 4 + n
		if len(b) < whole {
			return 0, nil, 0, api.ErrMore
		}
		body := b[whole-n : whole]
		if bytes.Equal(b[:whole], sealed(int(b[0]), body)) {
			return int(b[0]), body, whole, api.OK
		}
	}
	return 0, nil, 0, api.ErrCorrupt
}

func checkOpen(t *testing.T, b []byte, kind int, body []byte, size int, err api.Errno) {
	t.Helper()
	gotKind, gotBody, gotSize, gotErr := frame.Open(b)
	if gotKind != kind || !bytes.Equal(gotBody, body) || gotSize != size || gotErr != err {
		t.Errorf("P8.1: Open(%.40x of %d bytes): %d, %.40x, %d, %d, not %d, %.40x, %d, %d",
			b, len(b), gotKind, gotBody, gotSize, gotErr, kind, body, size, err)
	}
}

func checkNot(t *testing.T, b []byte, err api.Errno) {
	t.Helper()
	checkOpen(t, b, 0, nil, 0, err)
}

func checkAsModel(t *testing.T, b []byte) {
	t.Helper()
	kind, body, size, err := opened(b)
	checkOpen(t, b, kind, body, size, err)
}

func checkAll(t *testing.T, b []byte, want []frame.Found, size int) {
	t.Helper()
	same := func(x, y frame.Found) bool { return x.Kind == y.Kind && bytes.Equal(x.Body, y.Body) }
	if got, n := frame.All(b); !slices.EqualFunc(got, want, same) || n != size {
		t.Errorf("P8.1: All(%.40x of %d bytes): %d frames, %d bytes, not %d, %d", b, len(b), len(got), n, len(want), size)
	}
}

// P8.1: Seal

func TestKnownBytes(t *testing.T) {
	for _, x := range []struct {
		kind       int
		body, want string
	}{
		{1, "", "\x01\x00\x58\xc2\x23\xbe"},
		{255, "", "\xff\x00\xd2\xfd\xef\x8d"},
		{7, "abc", "\x07\x06\x9b\x0c\xec\x01abc"},
		{2, "\x00", "\x02\x02\xce\xf3\x6f\xfe\x00"},
		{128, strings.Repeat("x", 63), "\x80\x7e\x6c\xec\xcc\x45" + strings.Repeat("x", 63)},
		{9, strings.Repeat("x", 64), "\x09\x80\x01\xb1\xd6\xe0\x13" + strings.Repeat("x", 64)},
		{3, strings.Repeat("\xff", 4000), "\x03\xc0\x3e\xe9\xcf\xe4\xa9" + strings.Repeat("\xff", 4000)},
	} {
		if got := frame.Seal(x.kind, []byte(x.body)); string(got) != x.want {
			t.Errorf("P8.1: Seal(%d, %.40q): %.40x, not %.40x", x.kind, x.body, got, x.want)
		}
		checkOpen(t, []byte(x.want), x.kind, []byte(x.body), len(x.want), api.OK)
	}
}

func TestEachKindAndLengthGoesThereAndBack(t *testing.T) {
	check := func(kind, n int) {
		body := mixed(n)
		b := frame.Seal(kind, body)
		if !bytes.Equal(b, sealed(kind, body)) {
			t.Errorf("P8.1: Seal(%d, %d bytes): %.40x", kind, n, b)
		}
		for _, tail := range []string{"", "\x00", "\x01", "\xff\xff\xff"} {
			checkOpen(t, append(bytes.Clone(b), tail...), kind, body, len(b), api.OK)
		}
	}
	for kind := 1; kind <= 255; kind++ {
		for _, n := range []int{0, 1, 63, 64, 300} {
			check(kind, n)
		}
	}
	for n := range 4001 {
		check(n%255+1, n)
	}
}

func TestSealOfWhatMayNotBe(t *testing.T) {
	for _, kind := range []int{0, -1, -255, -256, 256, 257, 511, 512, 1<<16 + 1, 1<<32 + 1, -1<<32 + 1, math.MaxInt, math.MinInt, math.MinInt + 1} {
		for _, body := range [][]byte{nil, {1}, mixed(4000), mixed(4001)} {
			if got := frame.Seal(kind, body); got != nil {
				t.Errorf("P8.1: Seal(%d, %d bytes): %.40x", kind, len(body), got)
			}
		}
	}
	for _, kind := range []int{1, 2, 128, 255} {
		for _, n := range []int{4001, 4002, 4096, 8191, 8192, 1 << 16, 1<<16 + 5, 1 << 20} {
			if got := frame.Seal(kind, mixed(n)); got != nil {
				t.Errorf("P8.1: Seal(%d, %d bytes): %.40x", kind, n, got)
			}
		}
	}
}

// P8.1: Open

func TestOpenTellsWhatHasNotCome(t *testing.T) {
	for _, n := range []int{0, 1, 63, 64, 65, 200, 3999, 4000} {
		for _, kind := range []int{1, 127, 128, 255} {
			b := sealed(kind, mixed(n))
			for k := range b {
				checkNot(t, b[:k], api.ErrMore)
			}
		}
	}
}

func TestOpenOfAKindAndOneByte(t *testing.T) {
	checkNot(t, []byte{0}, api.ErrCorrupt)
	for kind := 1; kind <= 255; kind++ {
		checkNot(t, []byte{byte(kind)}, api.ErrMore)
		for c := range 256 {
			err := api.ErrMore
			if c < 128 && c%2 == 1 {
				// The byte is a whole length, below 0.
				err = api.ErrCorrupt
			}
			checkNot(t, []byte{byte(kind), byte(c)}, err)
			checkNot(t, []byte{0, byte(c)}, api.ErrCorrupt)
		}
	}
}

func TestOpenOfAllShortLengths(t *testing.T) {
	for i := range 1 << 16 {
		b := []byte{5, byte(i >> 8), byte(i)}
		checkAsModel(t, b)
		checkAsModel(t, withSum(string(b), nil))
		checkAsModel(t, append(b, 0))
		checkAsModel(t, append(b, 0x80, 0x80, 0x80, 0x80, 0x80, 0x80, 0x80, 0x80, 2))
	}
}

// A length that goes on behind its second byte may not be, however few bytes have come, and whatever the sum.
func TestOpenOfALengthThatGoesOn(t *testing.T) {
	for _, first := range []byte{0x80, 0x81, 0xc0, 0xff} {
		for _, second := range []byte{0x80, 0x81, 0xff} {
			for _, tail := range []string{"", "\x00", "\x01", "\x80", "\x80\x00", "\x80\x80", "\xff\xff\xff\xff\xff\xff\xff", "\xff\xff\xff\xff\xff\xff\xff\x01", "\xff\xff\xff\xff\xff\xff\xff\x02", "\xff\xff\xff\xff\xff\xff\xff\xff\xff"} {
				b := append([]byte{1, first, second}, tail...)
				checkNot(t, b, api.ErrCorrupt)
				checkNot(t, withSum(string(b), mixed(5000)), api.ErrCorrupt)
			}
		}
	}
}

func TestOpenOfALengthThatMayNotBe(t *testing.T) {
	for _, n := range []int64{-1, -2, -64, -65, -4000, -4001, 4001, 4002, 8191, 8192, -8192, -8193, 1 << 20, math.MaxInt32, 1 << 32, math.MaxInt64 - 10, math.MaxInt64, math.MinInt64, math.MinInt64 + 1} {
		head := string(binary.AppendVarint([]byte{1}, n))
		checkNot(t, []byte(head), api.ErrCorrupt)
		for _, body := range [][]byte{nil, mixed(1), mixed(64), mixed(4001), mixed(9000)} {
			checkNot(t, withSum(head, body), api.ErrCorrupt)
		}
	}
}

func TestOpenOfALengthLongerThanNeeded(t *testing.T) {
	for n := range 64 {
		head := string([]byte{1, byte(2*n) | 0x80, 0})
		checkNot(t, []byte(head), api.ErrCorrupt)
		checkNot(t, withSum(head, mixed(n)), api.ErrCorrupt)
	}
	for _, n := range []int{64, 65, 4000} {
		two := binary.AppendVarint([]byte{1}, int64(n))
		two[2] |= 0x80
		head := string(append(two, 0))
		checkNot(t, []byte(head), api.ErrCorrupt)
		checkNot(t, withSum(head, mixed(n)), api.ErrCorrupt)
	}
}

func TestOpenOfAnotherKind(t *testing.T) {
	for _, n := range []int{0, 1, 64, 4000} {
		b := sealed(0, mixed(n))
		for k := 1; k < len(b); k++ {
			checkNot(t, b[:k], api.ErrCorrupt)
		}
		checkNot(t, b, api.ErrCorrupt)
	}
}

func TestOpenTellsEachSpoiltByte(t *testing.T) {
	for _, n := range []int{0, 1, 5, 63, 64, 70} {
		b := append(sealed(7, mixed(n)), sealed(8, mixed(20))...)
		size := len(sealed(7, mixed(n)))
		for i := range size {
			for d := 1; d < 256; d++ {
				b[i] ^= byte(d)
				checkAsModel(t, b)
				if _, _, _, err := frame.Open(b[:size]); err == api.OK {
					t.Errorf("P8.1: %d bytes, the byte %d other by %02x: a frame", n, i, d)
				}
				b[i] ^= byte(d)
			}
		}
		checkOpen(t, b, 7, mixed(n), size, api.OK)
	}
}

func TestOpenTellsEachSpoiltBitOfTheLongestFrame(t *testing.T) {
	b := sealed(255, mixed(4000))
	for i := range len(b) * 8 {
		b[i/8] ^= 1 << (i % 8)
		checkAsModel(t, b)
		b[i/8] ^= 1 << (i % 8)
	}
	checkOpen(t, b, 255, mixed(4000), len(b), api.OK)
}

// The sum is that of the kind, the length and the body, no part left out.
func TestOpenOfAnotherSum(t *testing.T) {
	body := []byte("pack horse")
	head := "\x07\x14"
	for _, part := range []string{"", head, string(body), head[:1] + string(body), head[1:] + string(body), string(body) + head} {
		b := binary.BigEndian.AppendUint32([]byte(head), crc32.ChecksumIEEE([]byte(part)))
		checkNot(t, append(b, body...), api.ErrCorrupt)
	}
	turned := binary.LittleEndian.AppendUint32([]byte(head), crc32.ChecksumIEEE([]byte(head+string(body))))
	checkNot(t, append(turned, body...), api.ErrCorrupt)
	checkOpen(t, withSum(head, body), 7, body, 16, api.OK)
}

// P8.1: All

// some answers frames of many kinds and lengths, and their bytes one behind the other.
func some() ([]frame.Found, []byte) {
	var l []frame.Found
	var b []byte
	for i, n := range []int{3, 0, 64, 0, 1, 4000, 63, 4000, 200, 0} {
		f := frame.Found{Kind: i*28 + 1, Body: mixed(n)}
		l = append(l, f)
		b = append(b, sealed(f.Kind, f.Body)...)
	}
	return l, b
}

func TestAll(t *testing.T) {
	l, b := some()
	checkAll(t, b, l, len(b))
	for i := range l {
		size := len(sealed(l[i].Kind, l[i].Body))
		checkAll(t, b, l[i:], len(b))
		checkAll(t, b[:size], l[i:i+1], size)
		b = b[size:]
	}
	checkAll(t, b, nil, 0)
}

func TestAllOfEachBeginning(t *testing.T) {
	l, b := some()
	ends := []int{0}
	for i, f := range l {
		ends = append(ends, ends[i]+len(sealed(f.Kind, f.Body)))
	}
	whole := 0
	for k := range len(b) + 1 {
		if whole < len(l) && k == ends[whole+1] {
			whole++
		}
		checkAll(t, b[:k], l[:whole], ends[whole])
	}
}

func TestAllEndsWhereAByteIsSpoilt(t *testing.T) {
	l, b := some()
	used := 0
	for i, f := range l {
		size := len(sealed(f.Kind, f.Body))
		for _, k := range []int{0, 2, 5, size / 2, size - 1} {
			b[used+k] ^= 0x10
			checkAll(t, b, l[:i], used)
			b[used+k] ^= 0x10
		}
		used += size
	}
}

func TestAllOfWhatStandsBehind(t *testing.T) {
	l, b := some()
	for _, tail := range []string{"\x00", "\x01", "\x01\x80", "\x01\x80\x80", "\x01\x00\x58\xc2\x23", "\x01\x00\x58\xc2\x23\xbf", "\x01\x01", "\xff"} {
		checkAll(t, append(bytes.Clone(b), tail...), l, len(b))
		checkAll(t, []byte(tail), nil, 0)
		// What is good behind what is not is none of the frames.
		checkAll(t, append([]byte(tail), b...), nil, 0)
	}
}

func TestAllGoesOnAsOpenDoes(t *testing.T) {
	seed := uint32(1)
	pick := func(n int) int {
		seed = seed*1664525 + 1013904223
		return int(seed>>8) % n
	}
	for range 2000 {
		var b []byte
		for range pick(6) {
			b = append(b, sealed(pick(256), mixed(pick(100)))...)
		}
		if len(b) > 0 && pick(2) == 0 {
			b[pick(len(b))] ^= byte(pick(256))
		}
		var want []frame.Found
		used := 0
		for {
			kind, body, size, err := opened(b[used:])
			checkAsModel(t, b[used:])
			if err != api.OK {
				break
			}
			want = append(want, frame.Found{Kind: kind, Body: body})
			used += size
		}
		checkAll(t, b, want, used)
	}
}

// P0.1, P0.3, P0.4, P0.5

func TestLongLists(t *testing.T) {
	const n = 1 << 22
	for c := range 256 {
		b := bytes.Repeat([]byte{byte(c)}, 1<<13)
		checkAsModel(t, b)
		checkAll(t, b, nil, 0)
	}
	for _, c := range []byte{0, 1, 2, 0x7e, 0x80, 0xff} {
		b := bytes.Repeat([]byte{c}, n)
		checkAsModel(t, b)
		checkAll(t, b, nil, 0)
		if frame.Seal(1, b) != nil {
			t.Error("P0.1: Seal of a long list")
		}
	}
	empty := bytes.Repeat(sealed(1, nil), n/6)
	checkOpen(t, empty, 1, nil, 6, api.OK)
	checkAll(t, empty, slices.Repeat([]frame.Found{{Kind: 1}}, n/6), len(empty))
	full := bytes.Repeat(sealed(2, mixed(4000)), 500)
	checkAll(t, full, slices.Repeat([]frame.Found{{Kind: 2, Body: mixed(4000)}}, 500), len(full))
}

func TestArgumentsAreNotChanged(t *testing.T) {
	_, b := some()
	for _, n := range []int{0, 1, 9, 15, 100, 4000} {
		whole := append(bytes.Clone(b), mixed(64)...)
		frame.Seal(7, whole[:n])
		frame.Seal(0, whole[:n])
		frame.Open(whole[:n])
		frame.All(whole[:n])
		frame.All(whole[:len(b)])
		if !bytes.Equal(whole, append(bytes.Clone(b), mixed(64)...)) {
			t.Errorf("P0.3: of %d bytes a call writes into its argument's memory", n)
		}
	}
}

// spoil writes into all of b, its spare room too.
func spoil(b []byte) {
	room := b[:cap(b)]
	for i := range room {
		room[i] ^= 0x55
	}
}

func TestAnswersAreNewMemory(t *testing.T) {
	for _, n := range []int{0, 1, 9, 63, 64, 4000} {
		body := mixed(n)
		b := frame.Seal(9, body)
		other := frame.Seal(9, body)
		_, first, _, _ := frame.Open(b)
		_, second, _, _ := frame.Open(b)
		spoil(first)
		if !bytes.Equal(b, sealed(9, mixed(n))) || !bytes.Equal(second, mixed(n)) {
			t.Errorf("P0.3: Open of %d bytes answers shared memory", n)
		}
		spoil(b)
		if !bytes.Equal(body, mixed(n)) || !bytes.Equal(second, mixed(n)) || !bytes.Equal(other, sealed(9, mixed(n))) {
			t.Errorf("P0.3: Seal of %d bytes answers shared memory, or Open keeps its argument", n)
		}
		spoil(body)
		if !bytes.Equal(other, sealed(9, mixed(n))) {
			t.Errorf("P0.3: Seal of %d bytes keeps its argument", n)
		}
	}
}

func TestFoundFramesAreNewMemory(t *testing.T) {
	want, b := some()
	l, _ := frame.All(b)
	other, _ := frame.All(b)
	for i := range l {
		spoil(l[i].Body)
		for j := i + 1; j < len(l); j++ {
			if !bytes.Equal(l[j].Body, want[j].Body) {
				t.Errorf("P0.3: the frames %d and %d share memory", i, j)
			}
		}
	}
	clear(l[:cap(l)])
	checkAll(t, b, want, len(b))
	spoil(b)
	for i := range want {
		if other[i].Kind != want[i].Kind || !bytes.Equal(other[i].Body, want[i].Body) {
			t.Errorf("P0.3: the frame %d shares memory with the argument, or with another answer", i)
		}
	}
}

func TestNilIsEmpty(t *testing.T) {
	for kind := 1; kind <= 255; kind++ {
		if b := frame.Seal(kind, nil); len(b) != 6 || !bytes.Equal(b, frame.Seal(kind, []byte{})) {
			t.Errorf("P0.4: Seal(%d, nil): %x", kind, b)
		}
	}
	checkNot(t, nil, api.ErrMore)
	checkNot(t, []byte{}, api.ErrMore)
	checkNot(t, mixed(9)[:0], api.ErrMore)
	checkAll(t, nil, nil, 0)
	checkAll(t, []byte{}, nil, 0)
}

func TestSameAnswerAgain(t *testing.T) {
	l, b := some()
	for _, f := range l {
		first := frame.Seal(f.Kind, f.Body)
		frame.Seal(256-f.Kind, mixed(30))
		frame.Open([]byte("\x01\x80\x80"))
		frame.All(sealed(3, mixed(7)))
		if !bytes.Equal(frame.Seal(f.Kind, f.Body), first) {
			t.Errorf("P0.5: Seal of kind %d is told otherwise the second time", f.Kind)
		}
		checkOpen(t, first, f.Kind, f.Body, len(first), api.OK)
		checkAll(t, b, l, len(b))
	}
}
