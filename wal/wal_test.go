package wal_test

import (
	"bytes"
	"encoding/binary"
	"fmt"
	"hash/crc32"
	"math"
	"slices"
	"strings"
	"testing"
	"unsafe"

	"packhorse/api"
	"packhorse/frame"
	"packhorse/wal"
)

const top = 1 << 40

func hard(term int64, vote int) wal.Record {
	return wal.Record{Hard: true, H: api.Hard{Term: term, Vote: vote}}
}

func entry(index, term int64, kind int, data string) wal.Record {
	return wal.Record{E: api.Entry{Index: index, Term: term, Kind: kind, Data: data}}
}

// short answers the beginning of what x is.
func short(x any) string { return fmt.Sprintf("%.150q", fmt.Sprintf("%+v", x)) }

// mixed answers n bytes in which all values stand, in no plain order.
func mixed(n int) string {
	b := make([]byte, n)
	for i := range b {
		b[i] = byte(i*167 + i>>8*31 + 13)
	}
	return string(b)
}

// sealed answers the frame of a kind and a body, without the program's help.
func sealed(kind int, body string) []byte {
	head := binary.AppendVarint([]byte{byte(kind)}, int64(len(body)))
	sum := crc32.ChecksumIEEE(append(bytes.Clone(head), body...))
	return append(binary.BigEndian.AppendUint32(head, sum), body...)
}

// numbers answers numbers' bytes one behind the other.
func numbers(l ...int64) string {
	var b []byte
	for _, n := range l {
		b = binary.AppendVarint(b, n)
	}
	return string(b)
}

// text answers a text's bytes.
func text(s string) string { return numbers(int64(len(s))) + s }

// bodyOf answers the kind and the body of r's frame, as the document tells them, whether it may be or not.
func bodyOf(r wal.Record) (int, string) {
	if r.Hard {
		return 1, numbers(r.H.Term, int64(r.H.Vote))
	}
	return 2, numbers(r.E.Index, r.E.Term, int64(r.E.Kind)) + text(r.E.Data)
}

func bytesOf(r wal.Record) []byte { return sealed(bodyOf(r)) }

// goodRecords are records that may be, at all edges.
func goodRecords() []wal.Record {
	var l []wal.Record
	for _, term := range []int64{0, 1, 2, 63, 64, 1<<32 + 5, top - 1, top} {
		for vote := range 8 {
			l = append(l, hard(term, vote))
		}
	}
	for kind := 1; kind <= 3; kind++ {
		for _, n := range []int64{1, 2, 63, 64, 1 << 32, top - 1, top} {
			l = append(l, entry(n, 1, kind, ""), entry(1, n, kind, "a"), entry(n, n, kind, mixed(64)))
		}
		for _, size := range []int{1, 63, 64, 256, 2499, 2500} {
			l = append(l, entry(7, 3, kind, mixed(size)), entry(7, 3, kind, strings.Repeat("\xff", size)))
		}
	}
	return l
}

// outOf are numbers that are not from low to high, though some are in a smaller kind of number.
func outOf(low, high int64) []int64 {
	return []int64{low - 1, low - 2, high + 1, high + 2, low - 256, low + 1<<41, low + 1<<48, high - 1<<48, low + math.MinInt64 + 1, math.MinInt64, math.MaxInt64}
}

// outOfRange are records of which one number, or the Data's length, may not be.
func outOfRange() []wal.Record {
	var l []wal.Record
	for _, n := range outOf(0, top) {
		l = append(l, hard(n, 1))
	}
	for _, n := range append(outOf(0, 7), 1<<8, 1<<16, 1<<32, 1<<32+1) {
		l = append(l, hard(1, int(n)))
	}
	for _, n := range append(outOf(1, top), 0) {
		l = append(l, entry(n, 1, 1, ""), entry(1, n, 1, ""), entry(n, n, 1, "a"))
	}
	for _, n := range append(outOf(1, 3), 0, 1<<8+1, 1<<16+1, 1<<32+1) {
		l = append(l, entry(1, 1, int(n), ""), entry(1, 1, int(n), "a"))
	}
	for _, size := range []int{2501, 2502, 3000, 3500} {
		l = append(l, entry(1, 1, 2, mixed(size)))
	}
	return append(l, entry(0, 0, 0, ""), entry(1, 0, 0, ""), entry(0, 0, 1, ""))
}

// badRecords are records that may not be.
func badRecords() []wal.Record {
	l := append(outOfRange(), wal.Record{}, entry(0, 0, 0, "a"), entry(1, 1, 1, mixed(4001)), entry(1, 1, 1, strings.Repeat("x", 1<<21)))
	for _, e := range []api.Entry{{Index: 1}, {Index: -1}, {Term: 1}, {Kind: 1}, {Data: "a"}, {Data: "\x00"}, {Index: 1, Term: 1, Kind: 1}} {
		l = append(l, wal.Record{Hard: true, E: e}, wal.Record{Hard: true, H: api.Hard{Term: 1, Vote: 1}, E: e})
	}
	for _, h := range []api.Hard{{Term: 1}, {Vote: 1}, {Term: -1}, {Vote: -1}, {Term: 1, Vote: 1}, {Vote: 8}} {
		l = append(l, wal.Record{H: h}, wal.Record{H: h, E: api.Entry{Index: 1, Term: 1, Kind: 1}})
	}
	return l
}

func checkDecode(t *testing.T, b []byte, r wal.Record, size int, err api.Errno) {
	t.Helper()
	if got, n, gotErr := wal.Decode(b); got != r || n != size || gotErr != err {
		t.Errorf("P10.1: Decode(%.40x of %d bytes): %s, %d, %d, not %s, %d, %d", b, len(b), short(got), n, gotErr, short(r), size, err)
	}
}

func checkNone(t *testing.T, b []byte, err api.Errno) {
	t.Helper()
	checkDecode(t, b, wal.Record{}, 0, err)
}

func checkScan(t *testing.T, b []byte, want []wal.Record, size int, torn bool) {
	t.Helper()
	if l, n, ok := wal.Scan(b); !slices.Equal(l, want) || n != size || ok != torn {
		t.Errorf("P10.1: Scan(%.40x of %d bytes): %d records, %d, %v, not %d, %d, %v", b, len(b), len(l), n, ok, len(want), size, torn)
	}
}

// P10.1: May

func TestMay(t *testing.T) {
	for _, r := range goodRecords() {
		if !wal.May(r) {
			t.Errorf("P10.1: May(%s): false", short(r))
		}
	}
	for _, r := range badRecords() {
		if wal.May(r) {
			t.Errorf("P10.1: May(%s): true", short(r))
		}
	}
}

// P10.1: Encode

func TestEncodeOfKnownRecords(t *testing.T) {
	for _, x := range []struct {
		r    wal.Record
		kind int
		body string
	}{
		{hard(0, 0), 1, "\x00\x00"},
		{hard(3, 2), 1, "\x06\x04"},
		{hard(top, 7), 1, "\x80\x80\x80\x80\x80\x40\x0e"},
		{entry(1, 2, 3, "ab"), 2, "\x02\x04\x06\x04ab"},
		{entry(64, 1, 1, ""), 2, "\x80\x01\x02\x02\x00"},
		{entry(top, top, 2, strings.Repeat("x", 64)), 2, "\x80\x80\x80\x80\x80\x40\x80\x80\x80\x80\x80\x40\x04\x80\x01" + strings.Repeat("x", 64)},
	} {
		if got := wal.Encode(x.r); !bytes.Equal(got, sealed(x.kind, x.body)) {
			t.Errorf("P10.1: Encode(%s): %.60x", short(x.r), got)
		}
	}
	if got := wal.Encode(hard(0, 0)); string(got) != "\x01\x04\x9e\xf1\x10\xa5\x00\x00" {
		t.Errorf("P10.1: Encode(%s): %x", short(hard(0, 0)), got)
	}
}

func TestRecordsGoThereAndBack(t *testing.T) {
	for _, r := range goodRecords() {
		b := wal.Encode(r)
		if !bytes.Equal(b, bytesOf(r)) {
			t.Errorf("P10.1: Encode(%s): %.60x", short(r), b)
		}
		for _, tail := range []string{"", "\x00", "\x01", "\xff\xff\xff", string(b)} {
			checkDecode(t, append(bytesOf(r), tail...), r, len(bytesOf(r)), api.OK)
		}
	}
}

func TestEncodeOfWhatMayNotBe(t *testing.T) {
	for _, r := range badRecords() {
		if b := wal.Encode(r); b != nil {
			t.Errorf("P10.1: Encode(%s): %.60x", short(r), b)
		}
	}
}

// P10.1: Decode

func TestDecodeOfBeginnings(t *testing.T) {
	checkNone(t, nil, api.ErrMore)
	for _, r := range goodRecords() {
		b := bytesOf(r)
		for n := 0; n < len(b); n += 1 + n/50 {
			checkNone(t, b[:n], api.ErrMore)
		}
		checkNone(t, b[:len(b)-1], api.ErrMore)
	}
}

func TestDecodeOfSpoiltFrames(t *testing.T) {
	for _, r := range []wal.Record{hard(0, 0), hard(top, 7), entry(1, 1, 1, ""), entry(5, 4, 3, mixed(70))} {
		b := append(bytesOf(r), bytesOf(hard(1, 1))...)
		for i := range len(bytesOf(r)) {
			for d := 1; d < 256; d++ {
				b[i] ^= byte(d)
				_, _, _, err := frame.Open(b)
				checkNone(t, b, err)
				b[i] ^= byte(d)
			}
		}
	}
	for _, s := range []string{"\x00", "\x00\x00", "\x01\x01", "\x02\xc2\x3e", "\x01\x80\x80", "\xff\x80\x00"} {
		checkNone(t, []byte(s), api.ErrCorrupt)
	}
	for _, s := range []string{"\x01", "\x02\x80", "\x09", "\xff\x80", "\x03\xc0\x3e"} {
		checkNone(t, []byte(s), api.ErrMore)
	}
}

// A frame of another kind is told by frame's errors as long as it is not whole.
func TestDecodeOfAnotherKind(t *testing.T) {
	for kind := range 256 {
		for _, r := range []wal.Record{hard(3, 2), entry(1, 2, 3, "ab")} {
			own, body := bodyOf(r)
			b := sealed(kind, body)
			if kind != own {
				checkNone(t, b, api.ErrCorrupt)
			}
			if kind != 0 {
				checkNone(t, b[:len(b)-1], api.ErrMore)
			}
		}
		if kind != 0 {
			checkNone(t, sealed(kind, ""), api.ErrCorrupt)
			checkNone(t, sealed(kind, mixed(4000)), api.ErrCorrupt)
		}
	}
}

func TestDecodeOfNumbersThatMayNotBe(t *testing.T) {
	for _, r := range outOfRange() {
		b := bytesOf(r)
		checkNone(t, b, api.ErrCorrupt)
		checkNone(t, append(b, bytesOf(hard(1, 1))...), api.ErrCorrupt)
		checkNone(t, b[:len(b)-1], api.ErrMore)
	}
}

// spoiltBodies are bodies of which no record is made, by their kinds.
func spoiltBodies() map[int][]string {
	return map[int][]string{
		1: {
			"", "\x00", "\x06", "\x80", "\x06\x80", "\x06\x04\x00", "\x06\x04\x04", "\x06\x04\x80", "\x06\x01", "\x05\x04", "\x06\x10",
			"\x86\x00\x04", "\x06\x84\x00", "\x80\x00\x00", "\x00\x80\x00", "\xff\xff\xff\xff\xff\xff\xff\xff\xff\x02\x04", "\xff\xff\xff\xff\xff\xff\xff\xff\xff\xff\x04",
		},
		2: {
			"", "\x02", "\x02\x04", "\x02\x04\x06", "\x02\x04\x06\x80", "\x02\x04\x06\x04", "\x02\x04\x06\x04a", "\x02\x04\x06\x04abc", "\x02\x04\x06\x00a", "\x02\x04\x06\x00\x00",
			"\x82\x00\x04\x06\x00", "\x02\x84\x00\x06\x00", "\x02\x04\x86\x00\x00", "\x02\x04\x06\x80\x00", "\x02\x04\x06\x82\x00a", "\x02\x04\x06\x01", "\x02\x04\x06\x03a",
			"\x02\x04\x06\xff\xff\xff\xff\xff\xff\xff\xff\xff\x01", "\x02\x04\x06\xfe\xff\xff\xff\xff\xff\xff\xff\xff\x01", "\x02\x04\x06\x80\x80\x80\x01ab",
			"\x00\x04\x06\x00", "\x02\x00\x06\x00", "\x02\x04\x00\x00", "\x02\x04\x08\x00", "\x01\x04\x06\x00", "\x02\x01\x06\x00", "\x02\x04\x01\x00",
			"\x80\x80\x80", "\x02\x04\xff\xff\xff\xff\xff\xff\xff\xff\xff\x02\x00", "\x02\x04\x06" + text(mixed(2501)), "\x02\x04\x06" + text(mixed(2500)) + "\x00",
		},
	}
}

func TestDecodeOfSpoiltBodies(t *testing.T) {
	for kind, l := range spoiltBodies() {
		for _, body := range l {
			checkNone(t, sealed(kind, body), api.ErrCorrupt)
			checkNone(t, append(sealed(kind, body), "\x00\x00"...), api.ErrCorrupt)
		}
	}
}

func TestDecodeOfAllShortBodies(t *testing.T) {
	for i := range 1 << 16 {
		a, b := byte(i>>8), byte(i)
		x := sealed(1, string([]byte{a, b}))
		if a < 128 && a%2 == 0 && b <= 14 && b%2 == 0 {
			checkDecode(t, x, hard(int64(a/2), int(b/2)), len(x), api.OK)
		} else {
			checkNone(t, x, api.ErrCorrupt)
		}
		x = sealed(2, string([]byte{a, 2, b, 0}))
		if a > 0 && a < 128 && a%2 == 0 && (b == 2 || b == 4 || b == 6) {
			checkDecode(t, x, entry(int64(a/2), 1, int(b/2), ""), len(x), api.OK)
		} else {
			checkNone(t, x, api.ErrCorrupt)
		}
	}
}

// Whatever byte of a body is another one, taken out or put in: the record that is told has just those bytes.
func TestDecodeOfOtherBodies(t *testing.T) {
	taken := 0
	check := func(kind int, body string) {
		t.Helper()
		b := sealed(kind, body)
		r, n, err := wal.Decode(b)
		if err != api.OK {
			checkNone(t, b, api.ErrCorrupt)
			return
		}
		taken++
		if n != len(b) || !bytes.Equal(bytesOf(r), b) || !bytes.Equal(wal.Encode(r), b) || !wal.May(r) {
			t.Errorf("P10.1: Decode(%.40x): %s, %d", b, short(r), n)
		}
	}
	for _, r := range []wal.Record{hard(0, 0), hard(64, 3), hard(top, 7), entry(1, 1, 1, ""), entry(300, 70, 2, "pack horse"), entry(top, top, 3, mixed(64))} {
		kind, body := bodyOf(r)
		for i := range len(body) + 1 {
			for c := range 256 {
				check(kind, body[:i]+string([]byte{byte(c)})+body[i:])
				if i < len(body) {
					check(kind, body[:i]+string([]byte{byte(c)})+body[i+1:])
				}
			}
			check(kind, body[:i])
			check(kind, body[i:])
			check(kind, body[:i]+body[min(i+1, len(body)):])
		}
	}
	if taken < 500 {
		t.Errorf("P10.1: Decode takes only %d of the others", taken)
	}
}

// P10.1: Scan

// some answers records, the bytes of all of them, and where each one ends, from 0 on.
func some() ([]wal.Record, []byte, []int) {
	l := []wal.Record{hard(1, 0), entry(1, 1, 1, ""), hard(top, 7), entry(top, top, 3, mixed(2500)), entry(1, 1, 2, mixed(300)), entry(1, 1, 2, mixed(300)), hard(0, 0), hard(0, 0)}
	var b []byte
	ends := []int{0}
	for _, r := range l {
		b = append(b, bytesOf(r)...)
		ends = append(ends, len(b))
	}
	return l, b, ends
}

func TestScan(t *testing.T) {
	checkScan(t, nil, nil, 0, true)
	l, b, ends := some()
	for i := range ends {
		checkScan(t, b[ends[i]:], l[i:], len(b)-ends[i], true)
	}
	all := goodRecords()
	var whole []byte
	for _, r := range all {
		whole = append(whole, bytesOf(r)...)
	}
	checkScan(t, whole, all, len(whole), true)
}

func TestScanOfEachBeginning(t *testing.T) {
	l, b, ends := some()
	whole := 0
	for n := range len(b) + 1 {
		if whole < len(l) && n == ends[whole+1] {
			whole++
		}
		checkScan(t, b[:n], l[:whole], ends[whole], true)
	}
}

func TestScanOfWhatStandsBehind(t *testing.T) {
	l, b, _ := some()
	behind := func(tail string, torn bool) {
		t.Helper()
		checkScan(t, append(bytes.Clone(b), tail...), l, len(b), torn)
		checkScan(t, []byte(tail), nil, 0, torn)
	}
	for _, tail := range []string{"\x01", "\x02\x80", "\x01\x04\x9e\xf1\x10\xa5\x00", "\x09", "\xff\xc0\x3e", "\x03\x02", string(sealed(3, "abc")[:8])} {
		behind(tail, true)
	}
	for _, tail := range []string{"\x00", "\x01\x01", "\x01\x80\x80", "\x02\xc2\x3e", "\x01\x04\x9e\xf1\x10\xa4\x00\x00", "\x00\x00\x00", string(sealed(3, "abc")), string(sealed(255, ""))} {
		behind(tail, false)
		// What is good behind what is not is none of the records.
		behind(tail+string(bytesOf(hard(1, 1))), false)
	}
	for kind, bodies := range spoiltBodies() {
		for _, body := range bodies {
			behind(string(sealed(kind, body)), false)
		}
	}
	for _, r := range outOfRange() {
		behind(string(bytesOf(r)), false)
	}
}

func TestScanEndsWhereAByteIsSpoilt(t *testing.T) {
	l, b, ends := some()
	for i := range l {
		for _, k := range []int{ends[i], ends[i] + 1, ends[i] + 3, ends[i] + 5, (ends[i] + ends[i+1]) / 2, ends[i+1] - 1} {
			for _, d := range []byte{1, 2, 0x10, 0x80} {
				b[k] ^= d
				_, _, _, err := frame.Open(b[ends[i]:])
				checkScan(t, b, l[:i], ends[i], err == api.ErrMore)
				b[k] ^= d
			}
		}
	}
	checkScan(t, b, l, len(b), true)
}

func TestScanOfManyMixtures(t *testing.T) {
	seed := uint32(1)
	pick := func(n int) int {
		seed = seed*1664525 + 1013904223
		return int(seed>>8) % n
	}
	good, bad := goodRecords(), outOfRange()
	for range 1000 {
		var b []byte
		var want []wal.Record
		for range pick(9) {
			want = append(want, good[pick(len(good))])
			b = append(b, bytesOf(want[len(want)-1])...)
		}
		size, torn := len(b), true
		switch next := bytesOf(good[pick(len(good))]); pick(3) {
		case 0:
			b = append(b, next[:pick(len(next))]...)
		case 1:
			b, torn = append(b, bytesOf(bad[pick(len(bad))])...), false
		}
		checkScan(t, b, want, size, torn)
	}
}

// P10.2: PutSnap

// headOf answers the body of s's first frame, as the document tells it, whether it may be or not.
func headOf(s api.Snap) string {
	return numbers(s.Index, s.Term) + text(s.Conf) + numbers(int64(len(s.Data)))
}

// snapBytes answers a snapshot's frames: the head and pieces of kind 4.
func snapBytes(head string, pieces ...string) []byte {
	b := sealed(3, head)
	for _, p := range pieces {
		b = append(b, sealed(4, p)...)
	}
	return b
}

// cut answers data in pieces of size bytes, the last one less.
func cut(data string, size int) []string {
	var l []string
	for len(data) > size {
		l = append(l, data[:size])
		data = data[size:]
	}
	if data != "" {
		l = append(l, data)
	}
	return l
}

func bytesOfSnap(s api.Snap) []byte { return snapBytes(headOf(s), cut(s.Data, 3000)...) }

// goodSnaps are snapshots that may be, at all edges.
func goodSnaps() []api.Snap {
	var l []api.Snap
	for _, n := range []int64{0, 1, 63, 64, 1 << 32, top - 1, top} {
		l = append(l, api.Snap{Index: n}, api.Snap{Term: n}, api.Snap{Index: n, Term: n, Conf: "123", Data: "pack horse"})
	}
	for _, n := range []int{1, 7, 49, 50} {
		l = append(l, api.Snap{Conf: mixed(n)}, api.Snap{Index: 5, Term: 2, Conf: strings.Repeat("\xff", n), Data: mixed(n)})
	}
	for _, n := range []int{1, 63, 64, 2999, 3000, 3001, 5999, 6000, 6001, 8192, 9000, 65536, 199998, 199999, 200000} {
		l = append(l, api.Snap{Index: 9, Term: 8, Conf: "1234567", Data: mixed(n)})
	}
	return l
}

// badSnaps are snapshots that may not be.
func badSnaps() []api.Snap {
	var l []api.Snap
	for _, n := range outOf(0, top) {
		l = append(l, api.Snap{Index: n}, api.Snap{Term: n}, api.Snap{Index: n, Term: n, Conf: "1", Data: "a"}, api.Snap{Index: n, Term: 1, Data: mixed(3001)})
	}
	for _, n := range []int{51, 52, 64, 256, 306, 4001, 1 << 20} {
		l = append(l, api.Snap{Conf: strings.Repeat("1", n)}, api.Snap{Index: 1, Term: 1, Conf: mixed(n), Data: mixed(5)})
	}
	for _, n := range []int{200001, 200002, 203000, 1 << 18, 1 << 21} {
		l = append(l, api.Snap{Data: mixed(n)}, api.Snap{Index: 1, Term: 1, Conf: "1", Data: mixed(n)})
	}
	return l
}

func checkGetSnap(t *testing.T, b []byte, s api.Snap, size int, err api.Errno) {
	t.Helper()
	if got, n, gotErr := wal.GetSnap(b); got != s || n != size || gotErr != err {
		t.Errorf("P10.2: GetSnap(%.40x of %d bytes): %s, %d, %d, not %s, %d, %d", b, len(b), short(got), n, gotErr, short(s), size, err)
	}
}

func checkNoSnap(t *testing.T, b []byte, err api.Errno) {
	t.Helper()
	checkGetSnap(t, b, api.Snap{}, 0, err)
}

func TestPutSnapOfKnownSnaps(t *testing.T) {
	for _, x := range []struct {
		s    api.Snap
		want []byte
	}{
		{api.Snap{}, sealed(3, "\x00\x00\x00\x00")},
		{api.Snap{Index: 1, Term: 2, Conf: "1"}, sealed(3, "\x02\x04\x021\x00")},
		{api.Snap{Index: 64, Term: top, Conf: "123", Data: "ab"}, slices.Concat(sealed(3, "\x80\x01\x80\x80\x80\x80\x80\x40\x06123\x04"), sealed(4, "ab"))},
		{api.Snap{Data: mixed(3000)}, slices.Concat(sealed(3, "\x00\x00\x00\xf0\x2e"), sealed(4, mixed(3000)))},
		{api.Snap{Data: mixed(6001)}, slices.Concat(sealed(3, "\x00\x00\x00\xe2\x5d"), sealed(4, mixed(6001)[:3000]), sealed(4, mixed(6001)[3000:6000]), sealed(4, mixed(6001)[6000:]))},
	} {
		if got := wal.PutSnap(x.s); !bytes.Equal(got, x.want) {
			t.Errorf("P10.2: PutSnap(%s): %.60x of %d bytes", short(x.s), got, len(got))
		}
	}
}

func TestSnapsGoThereAndBack(t *testing.T) {
	for _, s := range goodSnaps() {
		b := wal.PutSnap(s)
		if !bytes.Equal(b, bytesOfSnap(s)) {
			t.Errorf("P10.2: PutSnap(%s): %.60x of %d bytes", short(s), b, len(b))
		}
		whole := bytesOfSnap(s)
		for _, tail := range [][]byte{nil, {0}, {4}, {255, 255}, sealed(4, ""), sealed(4, "a"), sealed(4, mixed(3000)), bytesOf(hard(1, 1)), whole} {
			checkGetSnap(t, append(bytes.Clone(whole), tail...), s, len(whole), api.OK)
		}
	}
}

func TestPutSnapOfEachLength(t *testing.T) {
	data := mixed(6100)
	for n := range data {
		s := api.Snap{Index: 3, Term: 2, Conf: "12", Data: data[:n]}
		b := wal.PutSnap(s)
		if !bytes.Equal(b, bytesOfSnap(s)) {
			t.Errorf("P10.2: PutSnap of %d bytes: %.60x", n, b)
		}
		checkGetSnap(t, b, s, len(b), api.OK)
	}
}

func TestPutSnapOfWhatMayNotBe(t *testing.T) {
	for _, s := range badSnaps() {
		if b := wal.PutSnap(s); b != nil {
			t.Errorf("P10.2: PutSnap(%s): %.60x of %d bytes", short(s), b, len(b))
		}
	}
}

// P10.2: GetSnap

func TestGetSnapOfBeginnings(t *testing.T) {
	checkNoSnap(t, nil, api.ErrMore)
	for _, s := range []api.Snap{{}, {Index: top, Term: top, Conf: mixed(50)}, {Index: 1, Term: 1, Conf: "1", Data: mixed(1)}, {Data: mixed(3000)}, {Data: mixed(3001)}, {Index: 7, Term: 7, Data: mixed(6200)}} {
		b := bytesOfSnap(s)
		for n := range b {
			checkNoSnap(t, b[:n], api.ErrMore)
		}
	}
	b := bytesOfSnap(api.Snap{Data: mixed(200000)})
	for n := 0; n < len(b); n += 997 {
		checkNoSnap(t, b[:n], api.ErrMore)
	}
	checkNoSnap(t, b[:len(b)-1], api.ErrMore)
}

// A spoilt frame is told as frame tells it: a spoilt length may still be one, of which not all has come.
func TestGetSnapOfSpoiltFrames(t *testing.T) {
	for _, s := range []api.Snap{{}, {Index: 1, Term: 2, Conf: "12", Data: mixed(70)}} {
		b := bytesOfSnap(s)
		head := len(sealed(3, headOf(s)))
		for i := range b {
			from := 0
			if i >= head {
				from = head
			}
			for d := 1; d < 256; d++ {
				b[i] ^= byte(d)
				_, _, _, err := frame.Open(b[from:])
				checkNoSnap(t, b, err)
				b[i] ^= byte(d)
			}
		}
	}
	b := bytesOfSnap(api.Snap{Index: 1, Term: 2, Conf: "12", Data: mixed(200000)})
	for i := 30; i < len(b); i += 1009 {
		b[i] ^= 0x40
		if s, n, err := wal.GetSnap(b); s != (api.Snap{}) || n != 0 || err == api.OK {
			t.Errorf("P10.2: the byte %d is spoilt: %s, %d, %d", i, short(s), n, err)
		}
		b[i] ^= 0x40
	}
	b[len(b)-1] ^= 1
	checkNoSnap(t, b, api.ErrCorrupt)
}

func TestGetSnapOfAnotherKind(t *testing.T) {
	s := api.Snap{Index: 1, Term: 2, Conf: "1", Data: mixed(3002)}
	pieces := cut(s.Data, 3000)
	for kind := range 256 {
		if kind != 3 {
			checkNoSnap(t, sealed(kind, headOf(s)), api.ErrCorrupt)
			checkNoSnap(t, slices.Concat(sealed(kind, headOf(s)), sealed(4, pieces[0]), sealed(4, pieces[1])), api.ErrCorrupt)
		}
		if kind != 4 {
			checkNoSnap(t, slices.Concat(sealed(3, headOf(s)), sealed(kind, pieces[0]), sealed(4, pieces[1])), api.ErrCorrupt)
			checkNoSnap(t, slices.Concat(sealed(3, headOf(s)), sealed(4, pieces[0]), sealed(kind, pieces[1])), api.ErrCorrupt)
		}
		if kind != 0 {
			checkNoSnap(t, sealed(kind, headOf(s))[:9], api.ErrMore)
		}
	}
	for _, r := range goodRecords() {
		checkNoSnap(t, bytesOf(r), api.ErrCorrupt)
	}
	checkNone(t, bytesOfSnap(s), api.ErrCorrupt)
	checkScan(t, bytesOfSnap(s), nil, 0, false)
}

func TestGetSnapOfHeadsThatMayNotBe(t *testing.T) {
	var heads []string
	for _, n := range outOf(0, top) {
		heads = append(heads, numbers(n, 1)+text("1")+numbers(1), numbers(1, n)+text("1")+numbers(1))
	}
	for _, n := range append(outOf(0, 200000), 1<<32, 1<<32+1, 1<<40) {
		heads = append(heads, numbers(1, 1)+text("1")+numbers(n))
	}
	for _, n := range []int{51, 52, 64, 256, 257, 3000} {
		heads = append(heads, numbers(1, 1)+text(mixed(n))+numbers(1))
	}
	good := "\x02\x04\x06123\x02"
	for i := range len(good) {
		heads = append(heads, good[:i])
	}
	heads = append(heads, good+"\x00", good+"\x80", good+"a", "\x82\x00\x04\x06123\x02", "\x02\x84\x00\x06123\x02", "\x02\x04\x86\x00123\x02", "\x02\x04\x06123\x82\x00",
		"\x02\x04\x05123\x02", "\x02\x04\x08123\x02", "\x02\x04\x04123\x02", "\x02\x04\xfe\xff\xff\xff\xff\xff\xff\xff\xff\x01123\x02", "\x02\x04\x06123\xff\xff\xff\xff\xff\xff\xff\xff\xff\x02")
	for _, head := range heads {
		// A spoilt head is told ahead of what has not come.
		checkNoSnap(t, snapBytes(head), api.ErrCorrupt)
		checkNoSnap(t, snapBytes(head, "a"), api.ErrCorrupt)
		checkNoSnap(t, snapBytes(head, mixed(3000), mixed(3000)), api.ErrCorrupt)
	}
	checkGetSnap(t, snapBytes(good, "a"), api.Snap{Index: 1, Term: 2, Conf: "123", Data: "a"}, len(snapBytes(good, "a")), api.OK)
}

// Whatever byte of a head is another one: the snapshot that is told has just those bytes.
func TestGetSnapOfOtherHeads(t *testing.T) {
	taken := 0
	for _, s := range []api.Snap{{}, {Index: 64, Term: 1, Conf: "12", Data: "abc"}, {Index: top, Term: top, Conf: mixed(50), Data: "abc"}} {
		head := headOf(s)
		for i := range len(head) {
			for c := range 256 {
				b := snapBytes(head[:i]+string([]byte{byte(c)})+head[i+1:], cut(s.Data, 3000)...)
				got, n, err := wal.GetSnap(b)
				if err != api.OK {
					if got != (api.Snap{}) || n != 0 || err != api.ErrCorrupt && err != api.ErrMore {
						t.Errorf("P10.2: GetSnap(%.60x): %s, %d, %d", b, short(got), n, err)
					}
					continue
				}
				taken++
				if !bytes.Equal(bytesOfSnap(got), b[:n]) || !bytes.Equal(wal.PutSnap(got), b[:n]) {
					t.Errorf("P10.2: GetSnap(%.60x): %s, %d", b, short(got), n)
				}
			}
		}
	}
	if taken < 500 {
		t.Errorf("P10.2: GetSnap takes only %d of the others", taken)
	}
}

func TestGetSnapOfOtherPieces(t *testing.T) {
	head := func(n int64) string { return numbers(1, 1) + text("1") + numbers(n) }
	for _, x := range []struct {
		length int64
		pieces []int
		err    api.Errno
	}{
		{1, nil, api.ErrMore},
		{1, []int{0}, api.ErrCorrupt},
		{1, []int{0, 1}, api.ErrCorrupt},
		{1, []int{2}, api.ErrCorrupt},
		{2, []int{1}, api.ErrCorrupt},
		{2, []int{1, 1}, api.ErrCorrupt},
		{2999, []int{3000}, api.ErrCorrupt},
		{2999, []int{2998}, api.ErrCorrupt},
		{3000, []int{2999, 1}, api.ErrCorrupt},
		{3000, []int{1500, 1500}, api.ErrCorrupt},
		{3000, []int{0, 3000}, api.ErrCorrupt},
		{3000, []int{3001}, api.ErrCorrupt},
		{3001, []int{3000}, api.ErrMore},
		{3001, []int{3001}, api.ErrCorrupt},
		{3001, []int{1, 3000}, api.ErrCorrupt},
		{3001, []int{1}, api.ErrCorrupt},
		{3001, []int{3000, 0}, api.ErrCorrupt},
		{3001, []int{3000, 2}, api.ErrCorrupt},
		{3001, []int{3000, 3000}, api.ErrCorrupt},
		{4000, []int{4000}, api.ErrCorrupt},
		{6000, []int{3000}, api.ErrMore},
		{6000, []int{3000, 2999}, api.ErrCorrupt},
		{6001, []int{3000, 3000}, api.ErrMore},
		{6001, []int{3000, 2999, 2}, api.ErrCorrupt},
		{6001, []int{3000, 3001}, api.ErrCorrupt},
		{200000, nil, api.ErrMore},
		{200000, []int{3000, 3000, 3000, 2000}, api.ErrCorrupt},
		{200000, slices.Repeat([]int{3000}, 66), api.ErrMore},
		{200000, slices.Repeat([]int{3000}, 67), api.ErrCorrupt},
		{200000, slices.Repeat([]int{2000}, 100), api.ErrCorrupt},
	} {
		var pieces []string
		for _, n := range x.pieces {
			pieces = append(pieces, mixed(n))
		}
		b := snapBytes(head(x.length), pieces...)
		checkNoSnap(t, b, x.err)
		if x.err == api.ErrMore {
			checkNoSnap(t, append(b, 0), api.ErrCorrupt)
			checkNoSnap(t, append(b, 4), api.ErrMore)
		}
	}
}

// P0.1, P0.3, P0.4, P0.5

func TestLongLists(t *testing.T) {
	const n = 1 << 22
	for c := range 256 {
		b := bytes.Repeat([]byte{byte(c)}, 1<<13)
		_, _, _, err := frame.Open(b)
		checkNone(t, b, err)
		checkNoSnap(t, b, err)
		checkScan(t, b, nil, 0, err == api.ErrMore)
	}
	for _, c := range []byte{0, 1, 2, 3, 4, 0x80, 0xff} {
		b := bytes.Repeat([]byte{c}, n)
		checkNone(t, b, api.ErrCorrupt)
		checkNoSnap(t, b, api.ErrCorrupt)
		checkScan(t, b, nil, 0, false)
	}
	small := bytesOf(hard(0, 0))
	checkScan(t, bytes.Repeat(small, n/len(small)), slices.Repeat([]wal.Record{hard(0, 0)}, n/len(small)), n/len(small)*len(small), true)
	big := bytesOf(entry(1, 1, 1, mixed(2500)))
	checkScan(t, bytes.Repeat(big, 1000), slices.Repeat([]wal.Record{entry(1, 1, 1, mixed(2500))}, 1000), 1000*len(big), true)
	long := strings.Repeat("x", n)
	if r := entry(1, 1, 1, long); wal.May(r) || wal.Encode(r) != nil {
		t.Error("P0.1: a long entry may be")
	}
	if wal.PutSnap(api.Snap{Data: long}) != nil || wal.PutSnap(api.Snap{Conf: long}) != nil {
		t.Error("P0.1: a long snapshot may be")
	}
}

func TestNilIsEmpty(t *testing.T) {
	for _, b := range [][]byte{nil, {}, []byte("abc")[:0]} {
		checkNone(t, b, api.ErrMore)
		checkNoSnap(t, b, api.ErrMore)
		checkScan(t, b, nil, 0, true)
	}
}

func TestArgumentsAreNotChanged(t *testing.T) {
	_, records, _ := some()
	for _, b := range [][]byte{records, bytesOfSnap(api.Snap{Index: 1, Term: 1, Conf: "1", Data: mixed(6001)})} {
		for _, n := range []int{0, 1, 20, len(b) / 2, len(b)} {
			whole := append(bytes.Clone(b), "spare room"...)
			wal.Decode(whole[:n])
			wal.Scan(whole[:n])
			wal.GetSnap(whole[:n])
			if string(whole) != string(b)+"spare room" {
				t.Errorf("P0.3: of %d bytes a call writes into its argument's memory", n)
			}
		}
	}
}

// spoil writes into all of b, its spare room too.
func spoil(b []byte) {
	room := b[:cap(b)]
	for i := range room {
		room[i] ^= 0x55
	}
}

func TestBytesAreNewMemory(t *testing.T) {
	for _, r := range []wal.Record{hard(1, 1), entry(1, 1, 1, "pack horse"), entry(1, 1, 1, mixed(2500))} {
		first, second := wal.Encode(r), wal.Encode(r)
		spoil(first)
		if !bytes.Equal(second, bytesOf(r)) || !bytes.Equal(wal.Encode(r), bytesOf(r)) {
			t.Errorf("P0.3: Encode(%s) answers shared memory", short(r))
		}
	}
	for _, s := range []api.Snap{{}, {Conf: "1", Data: mixed(50)}, {Data: mixed(6001)}} {
		first, second := wal.PutSnap(s), wal.PutSnap(s)
		spoil(first)
		if !bytes.Equal(second, bytesOfSnap(s)) || !bytes.Equal(wal.PutSnap(s), bytesOfSnap(s)) {
			t.Errorf("P0.3: PutSnap(%s) answers shared memory", short(s))
		}
	}
}

func TestAnswersOutliveTheirBytes(t *testing.T) {
	want, b, _ := some()
	first, _, _ := wal.Scan(b)
	second, _, _ := wal.Scan(b)
	clear(first[:cap(first)])
	one := bytesOf(entry(1, 1, 1, "pack horse"))
	r, _, _ := wal.Decode(one)
	s := api.Snap{Index: 1, Term: 1, Conf: "123", Data: mixed(6001)}
	frames := bytesOfSnap(s)
	snap, _, _ := wal.GetSnap(frames)
	for _, x := range [][]byte{b, one, frames} {
		spoil(x)
	}
	if !slices.Equal(second, want) {
		t.Error("P0.3: Scan shares its argument's memory, or another answer's")
	}
	if r != entry(1, 1, 1, "pack horse") {
		t.Error("P0.3: Decode shares its argument's memory")
	}
	if snap != s {
		t.Error("P0.3: GetSnap shares its argument's memory")
	}
}

func TestTextsAreNewMemory(t *testing.T) {
	b := bytesOf(entry(1, 1, 1, "pack horse"))
	l, _, _ := wal.Scan(slices.Concat(b, b))
	one, _, _ := wal.Decode(b)
	frames := bytesOfSnap(api.Snap{Conf: "pack horse", Data: "pack horse"})
	first, _, _ := wal.GetSnap(frames)
	second, _, _ := wal.GetSnap(frames)
	texts := []string{l[0].E.Data, l[1].E.Data, one.E.Data, first.Conf, first.Data, second.Conf, second.Data}
	for i, x := range texts {
		for _, y := range texts[:i] {
			if unsafe.StringData(x) == unsafe.StringData(y) {
				t.Error("P0.3: two texts of answers share memory")
			}
		}
	}
}

func TestSameAnswerAgain(t *testing.T) {
	l, b, _ := some()
	s := api.Snap{Index: 4, Term: 3, Conf: "12", Data: mixed(4000)}
	for _, r := range l {
		wal.Scan([]byte("\x00"))
		wal.Decode([]byte("\x01\x80\x80"))
		wal.GetSnap(sealed(3, "\x80"))
		wal.PutSnap(api.Snap{Index: 9, Data: mixed(3001)})
		if !bytes.Equal(wal.Encode(r), bytesOf(r)) || !bytes.Equal(wal.PutSnap(s), bytesOfSnap(s)) {
			t.Errorf("P0.5: %s: told otherwise behind other calls", short(r))
		}
		checkDecode(t, bytesOf(r), r, len(bytesOf(r)), api.OK)
		checkScan(t, b, l, len(b), true)
		checkGetSnap(t, bytesOfSnap(s), s, len(bytesOfSnap(s)), api.OK)
	}
}
