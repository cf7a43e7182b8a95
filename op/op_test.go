package op_test

import (
	"bytes"
	"fmt"
	"math"
	"reflect"
	"slices"
	"strings"
	"testing"
	"unsafe"

	"packhorse/api"
	"packhorse/num"
	"packhorse/op"
	"packhorse/value"
)

// goodKeys answers keys that may be.
func goodKeys() []string {
	return []string{"a", " ", "~", "\u0080", "né€😀", "\uFFFD", "\U0010FFFF", "pack horse",
		strings.Repeat("k", 40), strings.Repeat("é", 40), strings.Repeat("😀", 40)}
}

// badKeys answers keys that may not be: none, too long ones, those with a rune that a key has not, and what is no UTF-8.
func badKeys() []string {
	return []string{"", "\x00", "\n", "a\x1f", "\x7f", "a\x7fb", "\xff", "a\xc3", "\xed\xa0\x80",
		strings.Repeat("k", 41), strings.Repeat("é", 41), strings.Repeat("k", 40) + "\xff", strings.Repeat("k", 1<<20)}
}

// goodValues answers numbers and texts that a key may be.
func goodValues() []api.Raw {
	l := []api.Raw{{Kind: api.VText}, {Kind: api.VText, S: "x"}, {Kind: api.VText, S: "né€\n\x00"}, {Kind: api.VText, S: strings.Repeat("x", 200)}}
	for _, n := range []int64{0, 1, -1, 63, 64, -65, api.MaxNum, api.MaxNum + 1, -api.MaxNum - 1, math.MinInt64, math.MaxInt64} {
		l = append(l, api.Raw{Kind: api.VInt, N: n})
	}
	return l
}

// badValues answers what is no value, and is not none either.
func badValues() []api.Raw {
	return []api.Raw{{N: 1}, {S: "a"}, {Kind: api.VInt, S: "a"}, {Kind: api.VText, N: 1}, {Kind: api.VText, S: "\xff"},
		{Kind: api.VText, S: strings.Repeat("x", 201)}, {Kind: api.VText, S: strings.Repeat("x", 1<<20)},
		{Kind: 3}, {Kind: -1}, {Kind: 1 << 32}, {Kind: math.MinInt}, {Kind: math.MaxInt}}
}

// goodOps answers operations that may be, of each kind.
func goodOps() []api.Op {
	var l []api.Op
	for _, key := range goodKeys() {
		l = append(l, api.Op{Kind: api.ODel, Key: key}, api.Op{Kind: api.OAdd, Key: key, N: -7},
			api.Op{Kind: api.OPut, Key: key, Val: api.Raw{Kind: api.VText, S: key}},
			api.Op{Kind: api.OCas, Key: key, Val: api.Raw{Kind: api.VInt, N: 3}, Old: api.Raw{Kind: api.VText, S: key}})
	}
	for _, v := range goodValues() {
		l = append(l, api.Op{Kind: api.OPut, Key: "p", Val: v}, api.Op{Kind: api.OCas, Key: "c", Val: v}, api.Op{Kind: api.OCas, Key: "c", Old: v})
		for _, old := range goodValues() {
			l = append(l, api.Op{Kind: api.OCas, Key: "c", Val: v, Old: old})
		}
	}
	for _, n := range []int64{0, 1, -1, 1000, api.MaxNum - 1, api.MaxNum, -api.MaxNum, -api.MaxNum + 1} {
		l = append(l, api.Op{Kind: api.OAdd, Key: "n", N: n})
	}
	return l
}

// oneOfEach answers an operation that may be of each kind.
func oneOfEach() []api.Op {
	return []api.Op{
		{Kind: api.OPut, Key: "a", Val: api.Raw{Kind: api.VInt, N: 5}},
		{Kind: api.ODel, Key: "a"},
		{Kind: api.OCas, Key: "a", Val: api.Raw{Kind: api.VInt, N: 5}, Old: api.Raw{Kind: api.VText, S: "x"}},
		{Kind: api.OCas, Key: "a", Val: api.Raw{Kind: api.VInt, N: 5}},
		{Kind: api.OCas, Key: "a", Old: api.Raw{Kind: api.VText, S: "x"}},
		{Kind: api.OAdd, Key: "a", N: 5},
	}
}

// badOps answers operations that may not be.
func badOps() []api.Op {
	l := []api.Op{{}, {Kind: api.OPut, Key: "a"}, {Kind: api.OCas, Key: "a"}}
	for _, n := range []int64{api.MaxNum + 1, -api.MaxNum - 1, math.MinInt64, math.MaxInt64} {
		l = append(l, api.Op{Kind: api.OAdd, Key: "a", N: n})
	}
	for _, o := range oneOfEach() {
		for _, key := range badKeys() {
			bad := o
			bad.Key = key
			l = append(l, bad)
		}
		for _, kind := range []int{0, -1, -2, 5, 6, 256 + o.Kind, 1<<32 + o.Kind, math.MinInt, math.MinInt + o.Kind, math.MaxInt} {
			bad := o
			bad.Kind = kind
			l = append(l, bad)
		}
		l = append(l, badValuesIn(o)...)
		l = append(l, notNeededIn(o)...)
	}
	return l
}

// badValuesIn answers o with what is no value in it.
func badValuesIn(o api.Op) []api.Op {
	var l []api.Op
	for _, v := range badValues() {
		val, old := o, o
		val.Val, old.Old = v, v
		l = append(l, val, old)
	}
	return l
}

// notNeededIn answers o with what its kind does not need.
func notNeededIn(o api.Op) []api.Op {
	var l []api.Op
	for _, v := range goodValues() {
		val, old := o, o
		val.Val, old.Old = v, v
		if o.Kind == api.ODel || o.Kind == api.OAdd {
			l = append(l, val)
		}
		if o.Kind != api.OCas {
			l = append(l, old)
		}
	}
	for _, n := range []int64{1, -1, api.MaxNum, math.MinInt64, math.MaxInt64} {
		bad := o
		bad.N = n
		if o.Kind != api.OAdd {
			l = append(l, bad)
		}
	}
	return l
}

// puts answers a batch of n operations that put a text of size bytes, and of one that puts a text of last bytes.
func puts(n, size, last int) api.Batch {
	put := func(size int) api.Op {
		return api.Op{Kind: api.OPut, Key: "a", Val: api.Raw{Kind: api.VText, S: strings.Repeat("x", size)}}
	}
	return api.Batch{Client: 1, Seq: 1, Ops: append(slices.Repeat([]api.Op{put(size)}, n), put(last))}
}

// goodBatches answers batches that may be.
func goodBatches() []api.Batch {
	var l []api.Batch
	for client := 1; client <= 5; client++ {
		for _, seq := range []int64{1, 2, 63, 64, 1000, api.MaxNum - 1, api.MaxNum} {
			l = append(l, api.Batch{Client: client, Seq: seq, Ops: oneOfEach()})
		}
	}
	for _, o := range goodOps() {
		l = append(l, api.Batch{Client: 2, Seq: 77, Ops: []api.Op{o}})
	}
	for n := 1; n <= 8; n++ {
		l = append(l, api.Batch{Client: 3, Seq: 5, Ops: slices.Repeat([]api.Op{{Kind: api.OAdd, Key: "é", N: 1}}, n)})
	}
	return append(l, puts(5, 200, 160), puts(5, 200, 161), puts(7, 143, 143), puts(7, 144, 141))
}

// badBatches answers batches that may not be.
func badBatches() []api.Batch {
	del := []api.Op{{Kind: api.ODel, Key: "a"}}
	l := []api.Batch{{}, {Client: 1, Seq: 1}, {Client: 1, Seq: 1, Ops: []api.Op{}},
		{Client: 1, Seq: 1, Ops: slices.Repeat(del, 9)}, {Client: 1, Seq: 1, Ops: slices.Repeat(del, 1<<12)},
		puts(5, 200, 162), puts(5, 200, 200), puts(7, 200, 200), puts(7, 144, 142)}
	for _, client := range []int{0, -1, 6, 7, 256 + 1, 1<<32 + 1, math.MinInt, math.MinInt + 1, math.MaxInt} {
		l = append(l, api.Batch{Client: client, Seq: 1, Ops: del})
	}
	for _, seq := range []int64{0, -1, api.MaxNum + 1, math.MinInt64, math.MinInt64 + 1, math.MaxInt64} {
		l = append(l, api.Batch{Client: 1, Seq: seq, Ops: del})
	}
	for _, o := range badOps() {
		l = append(l, api.Batch{Client: 1, Seq: 1, Ops: []api.Op{o}},
			api.Batch{Client: 1, Seq: 1, Ops: append(oneOfEach(), o)}, api.Batch{Client: 1, Seq: 1, Ops: append([]api.Op{o}, del...)})
	}
	return l
}

// bytesOf answers b's bytes, as the document tells them, whether it may be or not.
func bytesOf(b api.Batch) []byte {
	return slices.Concat(num.Put(nil, int64(b.Client)), num.Put(nil, b.Seq), num.Put(nil, int64(len(b.Ops))), bytesOfOps(b.Ops))
}

func bytesOfOps(ops []api.Op) []byte {
	var b []byte
	for _, o := range ops {
		b = num.PutText(num.Put(b, int64(o.Kind)), o.Key)
		switch o.Kind {
		case api.OPut:
			b = append(b, bytesOfRaw(o.Val)...)
		case api.OCas:
			b = slices.Concat(b, bytesOfRaw(o.Val), bytesOfRaw(o.Old))
		case api.OAdd:
			b = num.Put(b, o.N)
		}
	}
	return b
}

// bytesOfRaw answers r's bytes, as the document tells them, whether it may be or not.
func bytesOfRaw(r api.Raw) []byte {
	b := num.Put(nil, int64(r.Kind))
	switch r.Kind {
	case api.VInt:
		b = num.Put(b, r.N)
	case api.VText:
		b = num.PutText(b, r.S)
	}
	return b
}

// short answers the beginning of what x is.
func short(x any) string { return fmt.Sprintf("%.150s", fmt.Sprint(x)) }

func checkDecode(t *testing.T, b []byte, want api.Batch) {
	t.Helper()
	if got, err := op.Decode(b); !reflect.DeepEqual(got, want) || err != api.OK {
		t.Errorf("P5.1: Decode(%.60x of %d bytes): %s, %d, not %s", b, len(b), short(got), err, short(want))
	}
}

func checkNoBatch(t *testing.T, b []byte) {
	t.Helper()
	got, err := op.Decode(b)
	if err != api.ErrForm {
		t.Errorf("P5.1: Decode(%.60x of %d bytes): %d", b, len(b), err)
	}
	if got.Client != 0 || got.Seq != 0 || len(got.Ops) > 0 {
		t.Errorf("P0.2: Decode(%.60x of %d bytes): %s beside its error", b, len(b), short(got))
	}
}

// P5.1: May

func TestMayOfWhatMayBe(t *testing.T) {
	for _, o := range append(goodOps(), oneOfEach()...) {
		if !op.May(o) {
			t.Errorf("P5.1: May(%s): false", short(o))
		}
	}
}

func TestMayOfWhatMayNotBe(t *testing.T) {
	for _, o := range badOps() {
		if op.May(o) {
			t.Errorf("P5.1: May(%s): true", short(o))
		}
	}
}

func TestMayOfAKey(t *testing.T) {
	for _, o := range oneOfEach() {
		for _, key := range goodKeys() {
			o.Key = key
			if !op.May(o) {
				t.Errorf("P5.1: May(%s): false", short(o))
			}
		}
	}
}

// P5.1: MayBatch

func TestMayBatch(t *testing.T) {
	for _, b := range goodBatches() {
		if !op.MayBatch(b) {
			t.Errorf("P5.1: MayBatch(%s): false", short(b))
		}
	}
	for _, b := range badBatches() {
		if op.MayBatch(b) {
			t.Errorf("P5.1: MayBatch(%s): true", short(b))
		}
	}
}

func TestLongestBatch(t *testing.T) {
	for last := range 201 {
		b := puts(5, 200, last)
		size := len(bytesOf(b))
		if got := op.MayBatch(b); got != (size <= 1200) {
			t.Errorf("P5.1: MayBatch of %d bytes: %v", size, got)
		}
		if got := len(op.Encode(b)); size <= 1200 && got != size || size > 1200 && got != 0 {
			t.Errorf("P5.1: Encode of %d bytes: %d", size, got)
		}
		if size <= 1200 {
			checkDecode(t, bytesOf(b), b)
		} else {
			checkNoBatch(t, bytesOf(b))
		}
	}
	if n := len(op.Encode(puts(5, 200, 161))); n != 1200 {
		t.Errorf("P5.1: the longest batch has %d bytes", n)
	}
}

// P5.1: Encode

func TestEncodeOfKnownBatches(t *testing.T) {
	for _, x := range []struct {
		b    api.Batch
		want string
	}{
		{api.Batch{Client: 1, Seq: 1, Ops: []api.Op{{Kind: api.ODel, Key: "a"}}}, "\x02\x02\x02\x04\x02a"},
		{api.Batch{Client: 5, Seq: 1 << 40, Ops: []api.Op{{Kind: api.ODel, Key: "é"}}}, "\x0a\x80\x80\x80\x80\x80\x40\x02\x04\x04é"},
		{api.Batch{Client: 2, Seq: 64, Ops: []api.Op{{Kind: api.OPut, Key: "a", Val: api.Raw{Kind: api.VInt, N: -1}}}}, "\x04\x80\x01\x02\x02\x02a\x02\x01"},
		{api.Batch{Client: 3, Seq: 2, Ops: []api.Op{{Kind: api.OPut, Key: "a", Val: api.Raw{Kind: api.VText}}}}, "\x06\x04\x02\x02\x02a\x04\x00"},
		{api.Batch{Client: 1, Seq: 1, Ops: []api.Op{
			{Kind: api.OCas, Key: "b", Val: api.Raw{Kind: api.VInt, N: 5}, Old: api.Raw{Kind: api.VText, S: "x"}},
			{Kind: api.OCas, Key: "b", Val: api.Raw{Kind: api.VInt, N: 5}},
			{Kind: api.OCas, Key: "b", Old: api.Raw{Kind: api.VText, S: "x"}},
		}}, "\x02\x02\x06" + "\x06\x02b\x02\x0a\x04\x02x" + "\x06\x02b\x02\x0a\x00" + "\x06\x02b\x00\x04\x02x"},
		{api.Batch{Client: 4, Seq: 3, Ops: []api.Op{
			{Kind: api.OAdd, Key: "n"}, {Kind: api.OAdd, Key: "n", N: 1 << 40}, {Kind: api.OAdd, Key: "n", N: -1 << 40},
		}}, "\x08\x06\x06" + "\x08\x02n\x00" + "\x08\x02n\x80\x80\x80\x80\x80\x40" + "\x08\x02n\xff\xff\xff\xff\xff\x3f"},
	} {
		if got := op.Encode(x.b); string(got) != x.want {
			t.Errorf("P5.1: Encode(%v): %x, not %x", x.b, got, x.want)
		}
		checkDecode(t, []byte(x.want), x.b)
	}
}

func TestBatchesGoThereAndBack(t *testing.T) {
	for _, b := range goodBatches() {
		got := op.Encode(b)
		if !bytes.Equal(got, bytesOf(b)) {
			t.Errorf("P5.1: Encode(%s): %.60x", short(b), got)
		}
		checkDecode(t, bytesOf(b), b)
	}
}

func TestEncodeOfWhatMayNotBe(t *testing.T) {
	for _, b := range badBatches() {
		if got := op.Encode(b); got != nil {
			t.Errorf("P5.1: Encode(%s): %.60x", short(b), got)
		}
	}
}

// P5.1: Decode

func TestDecodeOfWhatMayNotBe(t *testing.T) {
	for _, b := range badBatches() {
		// What the kind does not need is not written, so some of these are the bytes of a batch that may be.
		if got, err := op.Decode(bytesOf(b)); err == api.OK && !bytes.Equal(op.Encode(got), bytesOf(b)) {
			t.Errorf("P5.1: Decode of the bytes of %s: %s", short(b), short(got))
		}
	}
	for _, head := range []api.Batch{{}, {Client: 1}, {Seq: 1}, {Client: 6, Seq: 1}, {Client: -1, Seq: 1}, {Client: 1<<32 + 1, Seq: 1},
		{Client: 1, Seq: -1}, {Client: 1, Seq: 1<<40 + 1}, {Client: math.MinInt, Seq: math.MinInt64}, {Client: math.MaxInt, Seq: math.MaxInt64}} {
		head.Ops = oneOfEach()
		checkNoBatch(t, bytesOf(head))
	}
}

func TestDecodeOfOperationsThatMayNotBe(t *testing.T) {
	l := []api.Op{{Key: "a"}, {Kind: 5, Key: "a"}, {Kind: -1, Key: "a"}, {Kind: 1<<32 + 2, Key: "a"}, {Kind: math.MinInt + 2, Key: "a"}, {Kind: math.MaxInt, Key: "a"},
		{Kind: api.OPut, Key: "a"}, {Kind: api.OCas, Key: "a"}}
	for _, key := range badKeys() {
		l = append(l, api.Op{Kind: api.ODel, Key: key}, api.Op{Kind: api.OAdd, Key: key, N: 1})
	}
	for _, n := range []int64{api.MaxNum + 1, -api.MaxNum - 1, math.MinInt64, math.MaxInt64} {
		l = append(l, api.Op{Kind: api.OAdd, Key: "a", N: n})
	}
	for _, v := range []api.Raw{{Kind: 3}, {Kind: -1}, {Kind: 1 << 32}, {Kind: 1<<32 + 1, N: 5}, {Kind: api.VText, S: "\xff"}, {Kind: api.VText, S: strings.Repeat("x", 201)}} {
		l = append(l, api.Op{Kind: api.OPut, Key: "a", Val: v}, api.Op{Kind: api.OCas, Key: "a", Val: v}, api.Op{Kind: api.OCas, Key: "a", Old: v})
	}
	for _, o := range l {
		checkNoBatch(t, bytesOf(api.Batch{Client: 1, Seq: 1, Ops: []api.Op{o}}))
		checkNoBatch(t, bytesOf(api.Batch{Client: 1, Seq: 1, Ops: []api.Op{{Kind: api.ODel, Key: "b"}, o}}))
		checkNoBatch(t, bytesOf(api.Batch{Client: 1, Seq: 1, Ops: []api.Op{o, {Kind: api.ODel, Key: "b"}}}))
	}
}

func TestDecodeOfAnotherCount(t *testing.T) {
	for n := range 13 {
		ops := bytesOfOps(slices.Repeat([]api.Op{{Kind: api.OAdd, Key: "a", N: -3}}, n))
		for _, count := range []int64{math.MinInt64, -1, 0, 1, 2, 3, 4, 5, 6, 7, 8, 9, 10, 11, 12, 13, 255, 257, 1 << 32, 1<<32 + 1, math.MaxInt64} {
			b := slices.Concat([]byte{2, 2}, num.Put(nil, count), ops)
			if count == int64(n) && n >= 1 && n <= 8 {
				checkDecode(t, b, api.Batch{Client: 1, Seq: 1, Ops: slices.Repeat([]api.Op{{Kind: api.OAdd, Key: "a", N: -3}}, n)})
			} else {
				checkNoBatch(t, b)
			}
		}
	}
}

func TestDecodeOfBeginningsAndOfMore(t *testing.T) {
	for _, b := range goodBatches() {
		x := bytesOf(b)
		for n := range x {
			checkNoBatch(t, x[:n])
		}
		for _, tail := range []string{"\x00", "\x80", "a", "\xff", "\x04\x02a", string(x)} {
			checkNoBatch(t, append(bytes.Clone(x), tail...))
		}
	}
}

func TestDecodeOfNumbersLongerThanNeeded(t *testing.T) {
	for _, b := range []string{
		"\x82\x00\x02\x02\x04\x02a",
		"\x02\x82\x00\x02\x04\x02a",
		"\x02\x02\x82\x00\x04\x02a",
		"\x02\x02\x02\x84\x00\x02a",
		"\x02\x02\x02\x04\x82\x00a",
		"\x02\x02\x02\x02\x02a\x82\x00\x02",
		"\x02\x02\x02\x02\x02a\x02\x82\x00",
		"\x02\x02\x02\x08\x02a\x80\x00",
		"\x02\xff\xff\xff\xff\xff\xff\xff\xff\xff\x02\x02\x04\x02a",
	} {
		checkNoBatch(t, []byte(b))
	}
}

// Just of a batch's bytes: whatever byte is another one, the batch that Decode tells has those bytes.
func TestDecodeOfOtherBytes(t *testing.T) {
	taken := 0
	for _, b := range []api.Batch{{Client: 5, Seq: 1 << 40, Ops: oneOfEach()}, {Client: 1, Seq: 1, Ops: []api.Op{{Kind: api.OPut, Key: "né", Val: api.Raw{Kind: api.VText, S: "€"}}}}} {
		x := bytesOf(b)
		for i := range x {
			for c := range 256 {
				other := bytes.Clone(x)
				other[i] = byte(c)
				got, err := op.Decode(other)
				if err == api.OK {
					taken++
					if !bytes.Equal(op.Encode(got), other) || !bytes.Equal(bytesOf(got), other) || !op.MayBatch(got) {
						t.Errorf("P5.1: Decode(%x): %v", other, got)
					}
					continue
				}
				checkNoBatch(t, other)
			}
		}
	}
	if taken < 100 {
		t.Errorf("P5.1: Decode takes only %d of the others", taken)
	}
}

// P0.1, P0.3, P0.4, P0.5

func TestLongLists(t *testing.T) {
	const n = 1 << 22
	for _, unit := range []string{"\x00", "\x01", "\x02", "\x04", "\x08", "\x80", "\xff", "\x02\x02\x10\x04\x80\x80\x80\x01"} {
		checkNoBatch(t, []byte(strings.Repeat(unit, n)))
	}
	long := strings.Repeat("x", n)
	for _, o := range []api.Op{{Kind: api.ODel, Key: long}, {Kind: api.OPut, Key: "a", Val: api.Raw{Kind: api.VText, S: long}}, {Kind: api.ODel, Key: "a", Old: api.Raw{S: long}}} {
		b := api.Batch{Client: 1, Seq: 1, Ops: slices.Repeat([]api.Op{o}, 1<<16)}
		if op.May(o) || op.MayBatch(b) || op.Encode(b) != nil {
			t.Error("P0.1: many long operations may be")
		}
	}
}

func TestBatchIsNotChanged(t *testing.T) {
	room := slices.Repeat([]api.Op{{Kind: 9, Key: "room"}}, 20)
	copy(room, oneOfEach())
	before := slices.Clone(room)
	b := api.Batch{Client: 1, Seq: 1, Ops: room[:len(oneOfEach())]}
	op.MayBatch(b)
	op.Encode(b)
	if !slices.Equal(room, before) {
		t.Error("P0.3: the batch's operations, or their spare room, are changed")
	}
}

func TestBytesAreNewMemory(t *testing.T) {
	b := api.Batch{Client: 1, Seq: 1, Ops: oneOfEach()}
	first, second := op.Encode(b), op.Encode(b)
	room := first[:cap(first)]
	for i := range room {
		room[i] = 0x55
	}
	if !bytes.Equal(second, bytesOf(b)) || !bytes.Equal(op.Encode(b), bytesOf(b)) {
		t.Error("P0.3: Encode answers shared memory")
	}
}

func TestBatchOutlivesItsBytes(t *testing.T) {
	want := api.Batch{Client: 1, Seq: 1, Ops: oneOfEach()}
	whole := append(bytesOf(want), "spare room"...)
	before := bytes.Clone(whole)
	x := whole[:len(bytesOf(want))]
	first, _ := op.Decode(x)
	second, _ := op.Decode(x)
	if !bytes.Equal(whole, before) {
		t.Error("P0.3: Decode changes its argument")
	}
	clear(whole)
	room := first.Ops[:cap(first.Ops)]
	if !reflect.DeepEqual(first, want) {
		t.Errorf("P0.3: Decode shares its argument's memory: %v", first)
	}
	clear(room)
	if !reflect.DeepEqual(second, want) {
		t.Errorf("P0.3: Decode answers shared memory: %v", second)
	}
}

func TestTextsAreNewMemory(t *testing.T) {
	x := bytesOf(api.Batch{Client: 1, Seq: 1, Ops: []api.Op{{Kind: api.OPut, Key: "pack horse", Val: api.Raw{Kind: api.VText, S: "pack horse"}}}})
	first, _ := op.Decode(x)
	second, _ := op.Decode(x)
	texts := []string{first.Ops[0].Key, first.Ops[0].Val.S, second.Ops[0].Key, second.Ops[0].Val.S}
	for i, a := range texts {
		for _, b := range texts[:i] {
			if unsafe.StringData(a) == unsafe.StringData(b) {
				t.Error("P0.3: two of Decode's texts share memory")
			}
		}
	}
}

func TestNilIsEmpty(t *testing.T) {
	checkNoBatch(t, nil)
	checkNoBatch(t, []byte{})
	for _, ops := range [][]api.Op{nil, {}} {
		b := api.Batch{Client: 1, Seq: 1, Ops: ops}
		if op.MayBatch(b) || op.Encode(b) != nil {
			t.Error("P0.4: a batch of no operations may be")
		}
	}
}

func TestSameAnswerAgain(t *testing.T) {
	bad := badOps()[:10]
	for _, b := range goodBatches() {
		x := op.Encode(b)
		for _, o := range bad {
			op.May(o)
			op.Encode(api.Batch{Client: 1, Seq: 1, Ops: []api.Op{o}})
		}
		op.Decode([]byte("\x02\x02\x02\x04\x02"))
		op.Decode([]byte("\x0a\x02\x02\x04\x02z"))
		if !bytes.Equal(op.Encode(b), x) || !op.MayBatch(b) {
			t.Errorf("P0.5: %s is told otherwise the second time", short(b))
		}
		checkDecode(t, x, b)
	}
}

// What value writes of a value stands in a batch as it is.
func TestValuesStandAsValueWritesThem(t *testing.T) {
	for _, v := range goodValues() {
		x := op.Encode(api.Batch{Client: 1, Seq: 1, Ops: []api.Op{{Kind: api.OPut, Key: "a", Val: v}}})
		if want := value.Put([]byte("\x02\x02\x02\x02\x02a"), v); !bytes.Equal(x, want) {
			t.Errorf("P5.1: Encode of a put of %s: %.60x", short(v), x)
		}
	}
}
