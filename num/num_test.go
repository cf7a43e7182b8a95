package num_test

import (
	"bytes"
	"encoding/binary"
	"math"
	"strings"
	"testing"

	"packhorse/api"
	"packhorse/num"
)

// maxLength is the length of the longest text that GetText takes.
const maxLength = 1 << 20

// edgeNumbers answers the numbers round each power of two, on both sides of 0, and those at the ends of an int64.
func edgeNumbers() []int64 {
	l := []int64{math.MinInt64, math.MinInt64 + 1, math.MinInt64 + 2, math.MaxInt64 - 2, math.MaxInt64 - 1, math.MaxInt64}
	for k := range 63 {
		for d := int64(-2); d <= 2; d++ {
			l = append(l, int64(1)<<k-1+d, -int64(1)<<k+1-d)
		}
	}
	return l
}

// join answers n times the byte c, and then the tail.
func join(c byte, n int, tail ...byte) []byte {
	return append(bytes.Repeat([]byte{c}, n), tail...)
}

func checkGet(t *testing.T, b []byte, n int64, size int, err api.Errno) {
	t.Helper()
	if gotN, gotSize, gotErr := num.Get(b); gotN != n || gotSize != size || gotErr != err {
		t.Errorf("P2.1: Get(%x): %d, %d, %d, not %d, %d, %d", b, gotN, gotSize, gotErr, n, size, err)
	}
}

func checkGetText(t *testing.T, b []byte, s string, size int, err api.Errno) {
	t.Helper()
	if gotS, gotSize, gotErr := num.GetText(b); gotS != s || gotSize != size || gotErr != err {
		t.Errorf("P2.1: GetText(%.40x of %d bytes): %.40q, %d, %d, not %.40q, %d, %d", b, len(b), gotS, gotSize, gotErr, s, size, err)
	}
}

// P2.1: Put and Get

func TestPutAndGet(t *testing.T) {
	for _, x := range []struct {
		n    int64
		want string
	}{
		{0, "\x00"},
		{-1, "\x01"},
		{1, "\x02"},
		{-2, "\x03"},
		{2, "\x04"},
		{63, "\x7e"},
		{-64, "\x7f"},
		{64, "\x80\x01"},
		{-65, "\x81\x01"},
		{65, "\x82\x01"},
		{150, "\xac\x02"},
		{8191, "\xfe\x7f"},
		{-8192, "\xff\x7f"},
		{8192, "\x80\x80\x01"},
		{-8193, "\x81\x80\x01"},
		{api.MaxNum, "\x80\x80\x80\x80\x80\x40"},
		{1<<62 - 1, "\xfe\xff\xff\xff\xff\xff\xff\xff\x7f"},
		{-1 << 62, "\xff\xff\xff\xff\xff\xff\xff\xff\x7f"},
		{1 << 62, "\x80\x80\x80\x80\x80\x80\x80\x80\x80\x01"},
		{-1<<62 - 1, "\x81\x80\x80\x80\x80\x80\x80\x80\x80\x01"},
		{math.MaxInt64, "\xfe\xff\xff\xff\xff\xff\xff\xff\xff\x01"},
		{math.MinInt64, "\xff\xff\xff\xff\xff\xff\xff\xff\xff\x01"},
	} {
		if got := num.Put(nil, x.n); string(got) != x.want {
			t.Errorf("P2.1: Put(nil, %d): %x, not %x", x.n, got, x.want)
		}
		if got := num.Put([]byte("\x80a"), x.n); string(got) != "\x80a"+x.want {
			t.Errorf("P2.1: Put behind 8061, %d: %x", x.n, got)
		}
		checkGet(t, []byte(x.want), x.n, len(x.want), api.OK)
	}
}

func TestEdgeNumbersGoThereAndBack(t *testing.T) {
	for _, n := range edgeNumbers() {
		b := num.Put(nil, n)
		if !bytes.Equal(b, binary.AppendVarint(nil, n)) {
			t.Errorf("P2.1: Put(nil, %d): %x", n, b)
		}
		for _, tail := range []string{"", "\x00", "\x01", "\x80", "\xff", "\xff\xff\xff\xff\xff\xff\xff\xff\xff\xff\xff"} {
			checkGet(t, append(bytes.Clone(b), tail...), n, len(b), api.OK)
		}
		for k := range b {
			checkGet(t, b[:k], 0, 0, api.ErrMore)
		}
	}
}

func TestNumbersBehindOneAnother(t *testing.T) {
	var b []byte
	for _, n := range edgeNumbers() {
		b = num.Put(b, n)
	}
	for _, n := range edgeNumbers() {
		got, size, err := num.Get(b)
		if got != n || err != api.OK {
			t.Fatalf("P2.1: Get: %d, %d, where %d stands", got, err, n)
		}
		b = b[size:]
	}
	if len(b) > 0 {
		t.Errorf("P2.1: %d bytes are left", len(b))
	}
}

func TestGetTellsWhatHasNotCome(t *testing.T) {
	checkGet(t, []byte{}, 0, 0, api.ErrMore)
	for k := 1; k <= 9; k++ {
		for _, c := range []byte{0x80, 0x81, 0xfe, 0xff} {
			checkGet(t, join(c, k), 0, 0, api.ErrMore)
		}
	}
}

func TestGetTellsLongerThanNeeded(t *testing.T) {
	for k := 1; k <= 9; k++ {
		for _, c := range []byte{0x80, 0x81, 0xff} {
			checkGet(t, join(c, k, 0), 0, 0, api.ErrForm)
			checkGet(t, join(c, k, 0, 1), 0, 0, api.ErrForm)
			checkGet(t, join(c, k, 0, 0x80), 0, 0, api.ErrForm)
		}
	}
	// A byte that adds nothing is good where one that does comes behind it.
	checkGet(t, []byte("\x81\x80\x80\x01"), -1<<20-1, 4, api.OK)
}

func TestGetTellsBeyondAnInt64(t *testing.T) {
	for _, first := range []byte{0x80, 0x81, 0xff} {
		for tenth := 2; tenth <= 0xff; tenth++ {
			b := join(first, 9, byte(tenth))
			checkGet(t, b, 0, 0, api.ErrForm)
			checkGet(t, append(b, 0), 0, 0, api.ErrForm)
			checkGet(t, append(b, 1), 0, 0, api.ErrForm)
			checkGet(t, append(b, 0xff), 0, 0, api.ErrForm)
		}
	}
}

func TestGetOfAllShortBytes(t *testing.T) {
	for i := range 1 << 16 {
		b := []byte{byte(i >> 8), byte(i)}
		n, size := binary.Varint(b)
		switch {
		case size == 0:
			checkGet(t, b, 0, 0, api.ErrMore)
		case size == 2 && b[1] == 0:
			checkGet(t, b, 0, 0, api.ErrForm)
		default:
			checkGet(t, b, n, size, api.OK)
		}
	}
}

// P2.1: PutText and GetText

func TestPutTextAndGetText(t *testing.T) {
	for _, x := range []struct{ s, want string }{
		{"", "\x00"},
		{"a", "\x02a"},
		{"abc", "\x06abc"},
		{"né€", "\x0cné€"},
		{"\x00", "\x02\x00"},
		{"\xff\x80", "\x04\xff\x80"},
		{strings.Repeat("x", 63), "\x7e" + strings.Repeat("x", 63)},
		{strings.Repeat("x", 64), "\x80\x01" + strings.Repeat("x", 64)},
		{strings.Repeat("\xff", 8191), "\xfe\x7f" + strings.Repeat("\xff", 8191)},
		{strings.Repeat("\x80", 8192), "\x80\x80\x01" + strings.Repeat("\x80", 8192)},
	} {
		b := num.PutText(nil, x.s)
		if string(b) != x.want {
			t.Errorf("P2.1: PutText(nil, %.40q): %.40x", x.s, b)
		}
		if got := num.PutText([]byte("\x80a"), x.s); string(got) != "\x80a"+x.want {
			t.Errorf("P2.1: PutText behind 8061, %.40q: %.40x", x.s, got)
		}
		for _, tail := range []string{"", "\x00", "a", "\x80", "\xff\xff"} {
			checkGetText(t, append(bytes.Clone(b), tail...), x.s, len(b), api.OK)
		}
		for k := range b {
			checkGetText(t, b[:k], "", 0, api.ErrMore)
		}
	}
}

func TestGetTextOfTheLongestText(t *testing.T) {
	s := strings.Repeat("x", maxLength)
	b := num.PutText(nil, s)
	checkGetText(t, b, s, len(b), api.OK)
	checkGetText(t, append(b, 'x'), s, len(b), api.OK)
	checkGetText(t, b[:len(b)-1], "", 0, api.ErrMore)
	checkGetText(t, num.Put(nil, maxLength), "", 0, api.ErrMore)
}

func TestGetTextOfATextTooLong(t *testing.T) {
	s := strings.Repeat("x", maxLength+1)
	b := num.PutText(nil, s)
	if string(b) != string(num.Put(nil, maxLength+1))+s {
		t.Errorf("P2.1: PutText of %d bytes: %d bytes", len(s), len(b))
	}
	checkGetText(t, b, "", 0, api.ErrForm)
	checkGetText(t, b[:len(b)-1], "", 0, api.ErrForm)
}

func TestGetTextOfAWrongLength(t *testing.T) {
	const tail = "abcdefghijklmnop"
	for _, length := range []int64{-1, -2, -64, -maxLength, math.MinInt32, math.MinInt64 + 1, math.MinInt64,
		maxLength + 1, math.MaxInt32, 1 << 32, math.MaxInt64 - 1, math.MaxInt64} {
		b := num.Put(nil, length)
		checkGetText(t, b, "", 0, api.ErrForm)
		checkGetText(t, append(b, tail...), "", 0, api.ErrForm)
	}
	for _, length := range [][]byte{{0x80, 0}, {0x86, 0}, {0x86, 0x80, 0}, join(0x80, 9, 0), join(0x80, 9, 2), join(0xff, 10)} {
		checkGetText(t, length, "", 0, api.ErrForm)
		checkGetText(t, append(length, tail...), "", 0, api.ErrForm)
	}
	for k := range 10 {
		checkGetText(t, join(0xff, k), "", 0, api.ErrMore)
	}
}

// P2.1: Four

func TestFour(t *testing.T) {
	for n, want := range map[uint32]string{
		0:              "\x00\x00\x00\x00",
		1:              "\x00\x00\x00\x01",
		0xff:           "\x00\x00\x00\xff",
		0x100:          "\x00\x00\x01\x00",
		0x01020304:     "\x01\x02\x03\x04",
		0x80000000:     "\x80\x00\x00\x00",
		0xfedcba98:     "\xfe\xdc\xba\x98",
		math.MaxUint32: "\xff\xff\xff\xff",
	} {
		if got := num.Four(n); string(got) != want {
			t.Errorf("P2.1: Four(%#x): %x", n, got)
		}
	}
}

// P0.1, P0.3, P0.4, P0.5

func TestLongLists(t *testing.T) {
	for _, c := range []byte{0, 1, 'a', 0x80, 0xff} {
		b := join(c, 1<<22)
		if got := num.Put(b, 64); string(got) != string(b)+"\x80\x01" {
			t.Errorf("P0.1: Put behind many %x", c)
		}
		if got := num.PutText(b, string(b)); len(got) != 2<<22+4 || !bytes.HasPrefix(got, b) || !bytes.HasSuffix(got, b) {
			t.Errorf("P0.1: PutText of many %x behind them", c)
		}
	}
	checkGet(t, join(0, 1<<22), 0, 1, api.OK)
	checkGet(t, join(0xff, 1<<22), 0, 0, api.ErrForm)
	checkGetText(t, join(0x7e, 1<<22), strings.Repeat("\x7e", 63), 64, api.OK)
	checkGetText(t, join(1, 1<<22), "", 0, api.ErrForm)
}

// checkOwnMemory asks put for bytes behind a list with spare room, and holds that list and a second answer against what is written into the first.
func checkOwnMemory(t *testing.T, name string, length int, put func(b []byte) []byte) {
	t.Helper()
	whole := bytes.Repeat([]byte{0xee}, 64)
	before := bytes.Clone(whole)
	first, second := put(whole[:length]), put(whole[:length])
	want := bytes.Clone(second)
	if !bytes.Equal(whole, before) {
		t.Errorf("P0.3: %s behind %d bytes writes into its argument's memory", name, length)
	}
	room := first[:cap(first)]
	for i := range room {
		room[i] = 0x55
	}
	if !bytes.Equal(whole, before) || !bytes.Equal(second, want) {
		t.Errorf("P0.3: %s behind %d bytes answers shared memory", name, length)
	}
}

func TestAnswersAreNewMemory(t *testing.T) {
	for _, length := range []int{0, 1, 40, 64} {
		checkOwnMemory(t, "Put", length, func(b []byte) []byte { return num.Put(b, 300) })
		checkOwnMemory(t, "PutText", length, func(b []byte) []byte { return num.PutText(b, "text") })
		checkOwnMemory(t, "PutText of nothing", length, func(b []byte) []byte { return num.PutText(b, "") })
	}
	checkOwnMemory(t, "Four", 0, func([]byte) []byte { return num.Four(7) })
}

func TestTextOutlivesItsBytes(t *testing.T) {
	b := num.PutText(nil, "pack horse")
	before := bytes.Clone(b)
	s, _, _ := num.GetText(b)
	if !bytes.Equal(b, before) {
		t.Error("P0.3: GetText changes its argument")
	}
	clear(b)
	if s != "pack horse" {
		t.Errorf("P0.3: GetText shares its argument's memory: %q", s)
	}
}

func TestNilIsEmpty(t *testing.T) {
	if !bytes.Equal(num.Put(nil, 5), num.Put([]byte{}, 5)) || !bytes.Equal(num.PutText(nil, "a"), num.PutText([]byte{}, "a")) {
		t.Error("P0.4: Put, PutText behind nil")
	}
	checkGet(t, nil, 0, 0, api.ErrMore)
	checkGetText(t, nil, "", 0, api.ErrMore)
}

func TestSameAnswerAgain(t *testing.T) {
	for _, n := range edgeNumbers() {
		first := num.Put(nil, n)
		num.Put(first, ^n)
		num.GetText(first)
		num.Get(join(0xff, 10))
		if !bytes.Equal(num.Put(nil, n), first) {
			t.Errorf("P0.5: Put of %d is told otherwise the second time", n)
		}
		checkGet(t, first, n, len(first), api.OK)
	}
}
