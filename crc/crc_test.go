package crc_test

import (
	"bytes"
	"hash/crc32"
	"math"
	"math/bits"
	"strings"
	"testing"

	"packhorse/crc"
)

// edgeSums answers each sum that is one bit, or all bits but one, or what some well-known texts have.
func edgeSums() []uint32 {
	l := []uint32{0, math.MaxUint32, 0xcbf43926, 0x04c11db7, 0xedb88320, 0x2144df1c, 0x01234567, 0x89abcdef}
	for k := range 32 {
		l = append(l, 1<<k, ^uint32(1<<k))
	}
	return l
}

// mixed answers n bytes in which all values stand, in no plain order.
func mixed(n int) []byte {
	b := make([]byte, n)
	for i := range b {
		b[i] = byte(i*167 + i>>8*31 + 13)
	}
	return b
}

// divided reckons a sum as the polynomial is written: what is left when the text, its first 32 bits flipped, is divided by it.
func divided(b []byte) uint32 {
	r := uint32(math.MaxUint32)
	for _, c := range b {
		r ^= uint32(bits.Reverse8(c)) << 24
		for range 8 {
			top := r >> 31
			r = r<<1 ^ top*0x04c11db7
		}
	}
	return ^bits.Reverse32(r)
}

func checkSum(t *testing.T, b []byte) {
	t.Helper()
	if got, want := crc.Sum(b), crc32.ChecksumIEEE(b); got != want {
		t.Errorf("P3.1: Sum(%.40x of %d bytes): %08x, not %08x", b, len(b), got, want)
	}
}

func checkMore(t *testing.T, s uint32, b []byte) {
	t.Helper()
	if got, want := crc.More(s, b), crc32.Update(s, crc32.IEEETable, b); got != want {
		t.Errorf("P3.1: More(%08x, %.40x of %d bytes): %08x, not %08x", s, b, len(b), got, want)
	}
}

// P3.1: Sum

func TestSumOfKnownTexts(t *testing.T) {
	for s, want := range map[string]uint32{
		"":                         0,
		"\x00":                     0xd202ef8d,
		"\x00\x00":                 0x41d912ff,
		"\x00\x00\x00\x00":         0x2144df1c,
		"\xff":                     0xff000000,
		"\xff\xff\xff\xff":         0xffffffff,
		"a":                        0xe8b7be43,
		"abc":                      0x352441c2,
		"123456789":                0xcbf43926,
		strings.Repeat("\x00", 32): 0x190a55ad,
		strings.Repeat("\xff", 32): 0xff6cab0b,
		"The quick brown fox jumps over the lazy dog": 0x414fa339,
	} {
		if got := crc.Sum([]byte(s)); got != want {
			t.Errorf("P3.1: Sum(%q): %08x, not %08x", s, got, want)
		}
	}
}

func TestSumOfAllShortBytes(t *testing.T) {
	for i := range 1 << 16 {
		checkSum(t, []byte{byte(i >> 8), byte(i)})
		checkSum(t, []byte{byte(i)})
	}
}

func TestSumOfEachLength(t *testing.T) {
	b := mixed(5000)
	for n := range b {
		checkSum(t, b[:n])
		checkSum(t, b[n:])
	}
}

func TestSumIsWhatIsLeft(t *testing.T) {
	for n := range 300 {
		for _, b := range [][]byte{mixed(n), make([]byte, n), bytes.Repeat([]byte{0xff}, n)} {
			if got, want := crc.Sum(b), divided(b); got != want {
				t.Errorf("P3.1: Sum(%.40x of %d bytes): %08x, not %08x", b, n, got, want)
			}
		}
	}
}

func TestSumTellsEachBit(t *testing.T) {
	b := mixed(100)
	told := map[uint32]int{crc.Sum(b): -1}
	for i := range len(b) * 8 {
		b[i/8] ^= 1 << (i % 8)
		if j, ok := told[crc.Sum(b)]; ok {
			t.Errorf("P3.1: Sum is the same with the bit %d and the bit %d flipped", i, j)
		}
		told[crc.Sum(b)] = i
		b[i/8] ^= 1 << (i % 8)
	}
}

// P3.1: More

func TestMoreOfEachSplit(t *testing.T) {
	b := mixed(200)
	for i := range len(b) + 1 {
		if got := crc.More(crc.Sum(b[:i]), b[i:]); got != crc.Sum(b) {
			t.Errorf("P3.1: More behind %d bytes: %08x, not %08x", i, got, crc.Sum(b))
		}
		for j := i; j <= len(b); j++ {
			s := crc.More(crc.More(crc.Sum(b[:i]), b[i:j]), b[j:])
			if s != crc.Sum(b) {
				t.Errorf("P3.1: More behind %d bytes, then behind %d: %08x, not %08x", i, j, s, crc.Sum(b))
			}
		}
	}
}

func TestMoreByteByByte(t *testing.T) {
	b := mixed(2000)
	s := crc.Sum(nil)
	for i := range b {
		s = crc.More(s, b[i:i+1])
		if s != crc32.ChecksumIEEE(b[:i+1]) {
			t.Fatalf("P3.1: More of the byte %d: %08x", i, s)
		}
	}
}

func TestMoreBehindAnySum(t *testing.T) {
	for _, s := range edgeSums() {
		for c := range 256 {
			checkMore(t, s, []byte{byte(c)})
			checkMore(t, s, []byte{byte(c), byte(c), 0, 0xff})
		}
		for n := range 100 {
			checkMore(t, s, mixed(n))
		}
	}
}

func TestMoreOfNothing(t *testing.T) {
	for _, s := range edgeSums() {
		if crc.More(s, nil) != s || crc.More(s, []byte{}) != s {
			t.Errorf("P3.1: More(%08x) of nothing: %08x", s, crc.More(s, nil))
		}
	}
	if b := mixed(50); crc.More(0, b) != crc.Sum(b) {
		t.Errorf("P3.1: More behind nothing: %08x", crc.More(0, b))
	}
}

// P0.1, P0.3, P0.4, P0.5

func TestLongLists(t *testing.T) {
	for _, c := range []byte{0, 1, 0x80, 0xff} {
		b := bytes.Repeat([]byte{c}, 1<<22)
		checkSum(t, b)
		checkMore(t, 1, b)
	}
	checkSum(t, mixed(1<<22))
}

func TestArgumentsAreNotChanged(t *testing.T) {
	for _, n := range []int{0, 1, 7, 40, 64} {
		whole := mixed(64)
		crc.Sum(whole[:n])
		crc.More(5, whole[:n])
		if !bytes.Equal(whole, mixed(64)) {
			t.Errorf("P0.3: Sum or More of %d bytes writes into its argument's memory", n)
		}
	}
}

func TestListsAreNotKept(t *testing.T) {
	b := mixed(64)
	sum, more := crc.Sum(b), crc.More(5, b)
	clear(b)
	crc.Sum(b)
	if crc.Sum(mixed(64)) != sum || crc.More(5, mixed(64)) != more {
		t.Error("P0.3, P0.5: the bytes of an earlier call are in an answer")
	}
}

func TestNilIsEmpty(t *testing.T) {
	if crc.Sum(nil) != 0 || crc.Sum([]byte{}) != 0 || crc.Sum(mixed(9)[:0]) != 0 {
		t.Errorf("P0.4: Sum of nothing: %08x, %08x", crc.Sum(nil), crc.Sum([]byte{}))
	}
	if crc.More(7, nil) != crc.More(7, []byte{}) {
		t.Errorf("P0.4: More of nothing: %08x, %08x", crc.More(7, nil), crc.More(7, []byte{}))
	}
}

func TestSameAnswerAgain(t *testing.T) {
	for _, s := range edgeSums() {
		b := mixed(int(s % 300))
		sum, more := crc.Sum(b), crc.More(s, b)
		crc.More(^s, mixed(30))
		crc.Sum(mixed(31))
		if crc.Sum(b) != sum || crc.More(s, b) != more {
			t.Errorf("P0.5: the sum of %d bytes, behind %08x, is told otherwise the second time", len(b), s)
		}
	}
}
