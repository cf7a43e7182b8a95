package value_test

import (
	"bytes"
	"errors"
	"math"
	"runtime"
	"strings"
	"testing"
	"unicode/utf8"
	"unsafe"

	"packhorse/api"
	"packhorse/num"
	"packhorse/value"
)

// goodNumbers answers numbers at the edges of what their bytes and an int64 can be.
func goodNumbers() []int64 {
	l := []int64{math.MinInt64, math.MinInt64 + 1, math.MaxInt64 - 1, math.MaxInt64, api.MaxNum, -api.MaxNum}
	for k := range 63 {
		l = append(l, int64(1)<<k-1, int64(1)<<k, -int64(1)<<k, -int64(1)<<k-1)
	}
	return l
}

// goodTexts answers texts that a value may have, of each length in bytes among them.
func goodTexts() []string {
	l := []string{"né€😀", "\x00", "\n\x1f\x7f", "\u0080", "\uFFFD", "\U0010FFFF", "0", "-5", "\x02", "\x04",
		strings.Repeat("é", 100), strings.Repeat("😀", 50), strings.Repeat("x", 197) + "€"}
	for n := range api.MaxText + 1 {
		l = append(l, strings.Repeat("x", n))
	}
	return l
}

// badTexts answers texts that no value has: too long ones, and what is no UTF-8.
func badTexts() []string {
	return []string{"\xff", "\x80", "a\xc3", "\xe2\x82", "\xed\xa0\x80", "\xc0\x80", "\xf4\x90\x80\x80", "\uFFFD\xff",
		strings.Repeat("x", 199) + "\xff",
		strings.Repeat("x", 201), strings.Repeat("x", 199) + "é", strings.Repeat("é", 101), strings.Repeat("x", 200) + "\xff",
		strings.Repeat("x", 1000), strings.Repeat("x", 1<<20)}
}

// goodRaws answers what may be a value; no two are the same.
func goodRaws() []api.Raw {
	seen := map[api.Raw]int{}
	var l []api.Raw
	add := func(r api.Raw) {
		seen[r]++
		if seen[r] == 1 {
			l = append(l, r)
		}
	}
	add(api.Raw{})
	for _, n := range goodNumbers() {
		add(api.Raw{Kind: api.VInt, N: n})
	}
	for _, s := range goodTexts() {
		add(api.Raw{Kind: api.VText, S: s})
	}
	return l
}

// badRaws answers what may be no value.
func badRaws() []api.Raw {
	var l []api.Raw
	for _, n := range []int64{1, -1, 5, math.MinInt64, math.MaxInt64} {
		l = append(l, api.Raw{N: n}, api.Raw{Kind: api.VText, N: n}, api.Raw{Kind: api.VText, N: n, S: "a"}, api.Raw{N: n, S: "a"})
	}
	for _, s := range []string{"a", "\x00", "\xff", strings.Repeat("x", 201)} {
		l = append(l, api.Raw{S: s}, api.Raw{Kind: api.VInt, S: s}, api.Raw{Kind: api.VInt, N: 7, S: s})
	}
	for _, s := range badTexts() {
		l = append(l, api.Raw{Kind: api.VText, S: s})
	}
	for _, k := range []int{-1, -2, 3, 4, 128, 256, 257, 258, 1 << 32, 1<<32 + 1, 1<<32 + 2, math.MinInt, math.MinInt + 1, math.MinInt + 2, math.MaxInt} {
		l = append(l, api.Raw{Kind: k}, api.Raw{Kind: k, N: 1}, api.Raw{Kind: k, S: "a"})
	}
	return l
}

// of answers the value of an r that may be.
func of(t *testing.T, r api.Raw) value.Value {
	t.Helper()
	v, err := value.Of(r)
	if err != api.OK {
		t.Fatalf("P4.1: Of(%.60v): %d", r, err)
	}
	return v
}

// bytesOf answers the bytes of an r that may be, as the document tells them.
func bytesOf(r api.Raw) []byte {
	b := num.Put(nil, int64(r.Kind))
	switch r.Kind {
	case api.VInt:
		b = num.Put(b, r.N)
	case api.VText:
		b = num.PutText(b, r.S)
	}
	return b
}

// panicOf answers what ask panics with, or nil.
func panicOf(ask func()) (caught any) {
	defer func() { caught = recover() }()
	ask()
	return nil
}

func checkGet(t *testing.T, b []byte, r api.Raw, size int, err api.Errno) {
	t.Helper()
	if gotR, gotSize, gotErr := value.Get(b); gotR != r || gotSize != size || gotErr != err {
		t.Errorf("P4.2: Get(%.40x of %d bytes): %.60v, %d, %d, not %.60v, %d, %d", b, len(b), gotR, gotSize, gotErr, r, size, err)
	}
}

// P4.1

func TestOfWhatMayBe(t *testing.T) {
	for _, r := range goodRaws() {
		v := of(t, r)
		if v.Kind() != r.Kind {
			t.Errorf("P4.1: Kind of %.60v: %d", r, v.Kind())
		}
		if got := value.Raw(v); got != r {
			t.Errorf("P4.1: Raw of %.60v: %.60v", r, got)
		}
	}
}

func TestOfWhatMayNotBe(t *testing.T) {
	for _, r := range badRaws() {
		v, err := value.Of(r)
		if err != api.ErrForm {
			t.Errorf("P4.1: Of(%.60v): %d", r, err)
		}
		if v != (value.Value{}) || v.Kind() != api.VNone || value.Raw(v) != (api.Raw{}) {
			t.Errorf("P4.1: Of(%.60v) answers a value beside its error: %.60v", r, value.Raw(v))
		}
	}
}

func TestZeroValueIsNone(t *testing.T) {
	var zero value.Value
	if zero.Kind() != api.VNone || value.Raw(zero) != (api.Raw{}) {
		t.Errorf("P4.1: the zero Value: %d, %v", zero.Kind(), value.Raw(zero))
	}
	if of(t, api.Raw{}) != zero {
		t.Error("P4.1: Of a zero Raw is not the zero Value")
	}
	// A number that is zero and a text that is empty are values for all that.
	if of(t, api.Raw{Kind: api.VInt}) == zero || of(t, api.Raw{Kind: api.VText}) == zero {
		t.Error("P4.1: 0 or an empty text is the zero Value")
	}
}

func TestAsInt(t *testing.T) {
	for _, r := range goodRaws() {
		n, ok := value.AsInt(of(t, r))
		if n != r.N || ok != (r.Kind == api.VInt) {
			t.Errorf("P4.1: AsInt of %.60v: %d, %v", r, n, ok)
		}
	}
	if n, ok := value.AsInt(value.Value{}); n != 0 || ok {
		t.Errorf("P4.1: AsInt of the zero Value: %d, %v", n, ok)
	}
}

func TestMustInt(t *testing.T) {
	for _, n := range goodNumbers() {
		if got := value.MustInt(of(t, api.Raw{Kind: api.VInt, N: n})); got != n {
			t.Errorf("P4.1: MustInt of %d: %d", n, got)
		}
	}
}

func TestMustIntOfNoNumber(t *testing.T) {
	l := []value.Value{{}, of(t, api.Raw{})}
	for _, s := range goodTexts() {
		l = append(l, of(t, api.Raw{Kind: api.VText, S: s}))
	}
	for _, r := range badRaws() {
		v, _ := value.Of(r)
		l = append(l, v)
	}
	for _, v := range l {
		err, ok := panicOf(func() { value.MustInt(v) }).(error)
		if !ok {
			t.Errorf("P4.1: MustInt of %.60v does not panic", value.Raw(v))
			continue
		}
		if told := new(runtime.TypeAssertionError); !errors.As(err, &told) {
			t.Errorf("P4.1: MustInt of %.60v panics, but by no type assertion: %v", value.Raw(v), err)
		}
	}
}

func TestEq(t *testing.T) {
	l := goodRaws()
	for i, a := range l {
		for k, b := range l {
			if got := value.Eq(of(t, a), of(t, b)); got != (i == k) {
				t.Errorf("P4.1: Eq(%.60v, %.60v): %v", a, b, got)
			}
		}
	}
}

func TestEqOfTheZeroValue(t *testing.T) {
	var zero value.Value
	if !value.Eq(zero, zero) || !value.Eq(zero, of(t, api.Raw{})) || !value.Eq(of(t, api.Raw{}), zero) {
		t.Error("P4.1: Eq of the zero Value and none")
	}
	for _, r := range []api.Raw{{Kind: api.VInt}, {Kind: api.VText}, {Kind: api.VInt, N: 1}, {Kind: api.VText, S: "a"}} {
		if v := of(t, r); value.Eq(zero, v) || value.Eq(v, zero) {
			t.Errorf("P4.1: Eq of the zero Value and %v", r)
		}
	}
}

// P4.2

func TestPutOfKnownValues(t *testing.T) {
	for _, x := range []struct {
		r    api.Raw
		want string
	}{
		{api.Raw{}, "\x00"},
		{api.Raw{Kind: api.VInt}, "\x02\x00"},
		{api.Raw{Kind: api.VInt, N: 1}, "\x02\x02"},
		{api.Raw{Kind: api.VInt, N: -1}, "\x02\x01"},
		{api.Raw{Kind: api.VInt, N: -65}, "\x02\x81\x01"},
		{api.Raw{Kind: api.VInt, N: math.MaxInt64}, "\x02\xfe\xff\xff\xff\xff\xff\xff\xff\xff\x01"},
		{api.Raw{Kind: api.VInt, N: math.MinInt64}, "\x02\xff\xff\xff\xff\xff\xff\xff\xff\xff\x01"},
		{api.Raw{Kind: api.VText}, "\x04\x00"},
		{api.Raw{Kind: api.VText, S: "ab"}, "\x04\x04ab"},
		{api.Raw{Kind: api.VText, S: "né€"}, "\x04\x0cné€"},
		{api.Raw{Kind: api.VText, S: strings.Repeat("x", 200)}, "\x04\x90\x03" + strings.Repeat("x", 200)},
	} {
		if got := value.Put(nil, x.r); string(got) != x.want {
			t.Errorf("P4.2: Put(nil, %.60v): %.40x, not %.40x", x.r, got, x.want)
		}
		if got := value.Put([]byte("\x80a"), x.r); string(got) != "\x80a"+x.want {
			t.Errorf("P4.2: Put behind 8061, %.60v: %.40x", x.r, got)
		}
		checkGet(t, []byte(x.want), x.r, len(x.want), api.OK)
	}
}

func TestValuesGoThereAndBack(t *testing.T) {
	for _, r := range goodRaws() {
		b := value.Put(nil, r)
		if !bytes.Equal(b, bytesOf(r)) {
			t.Errorf("P4.2: Put(nil, %.60v): %.40x", r, b)
		}
		for _, tail := range []string{"", "\x00", "\x02", "\x80", "x", "\xff", "\xff\xff\xff\xff\xff\xff\xff\xff\xff\xff\xff"} {
			checkGet(t, append(bytes.Clone(b), tail...), r, len(b), api.OK)
		}
		for k := range b {
			checkGet(t, b[:k], api.Raw{}, 0, api.ErrMore)
		}
	}
}

func TestValuesBehindOneAnother(t *testing.T) {
	var b []byte
	for _, r := range goodRaws() {
		b = value.Put(b, r)
	}
	for _, r := range goodRaws() {
		got, size, err := value.Get(b)
		if got != r || err != api.OK {
			t.Fatalf("P4.2: Get: %.60v, %d, where %.60v stands", got, err, r)
		}
		b = b[size:]
	}
	if len(b) > 0 {
		t.Errorf("P4.2: %d bytes are left", len(b))
	}
}

func TestGetOfAKindThatIsNone(t *testing.T) {
	for _, k := range []int64{-1, -2, 3, 4, 64, 127, 128, 256, 257, 258, 1 << 32, 1<<32 + 1, 1<<32 + 2, math.MinInt64, math.MinInt64 + 1, math.MinInt64 + 2, math.MaxInt64} {
		b := num.Put(nil, k)
		for _, tail := range []string{"", "\x00", "\x02", "\x04ab", "\x80", "\x80\x00"} {
			checkGet(t, append(bytes.Clone(b), tail...), api.Raw{}, 0, api.ErrForm)
		}
		for i := range b {
			checkGet(t, b[:i], api.Raw{}, 0, api.ErrMore)
		}
	}
}

func TestGetTellsNumsErrors(t *testing.T) {
	ten := strings.Repeat("\xff", 9)
	for b, err := range map[string]api.Errno{
		"":     api.ErrMore,
		"\x80": api.ErrMore,
		ten:    api.ErrMore,
		// The kind is longer than needed, or beyond an int64.
		"\x80\x00":         api.ErrForm,
		"\x82\x00\x02":     api.ErrForm,
		"\x84\x80\x00\x00": api.ErrForm,
		ten + "\x02":       api.ErrForm,
		// So is the number.
		"\x02":                api.ErrMore,
		"\x02\x80":            api.ErrMore,
		"\x02" + ten:          api.ErrMore,
		"\x02\x80\x00":        api.ErrForm,
		"\x02\x82\x80\x00":    api.ErrForm,
		"\x02" + ten + "\x02": api.ErrForm,
		"\x02" + ten + "\xff": api.ErrForm,
		// So is the text's length; or it is below 0, or above 2^20.
		"\x04":                 api.ErrMore,
		"\x04\x80":             api.ErrMore,
		"\x04\x04a":            api.ErrMore,
		"\x04\x80\x00":         api.ErrForm,
		"\x04\x82\x00a":        api.ErrForm,
		"\x04" + ten + "\x02":  api.ErrForm,
		"\x04\x01":             api.ErrForm,
		"\x04\x01a":            api.ErrForm,
		"\x04\x82\x80\x80\x01": api.ErrForm,
	} {
		checkGet(t, []byte(b), api.Raw{}, 0, err)
	}
}

func TestGetOfATextThatMayNotBe(t *testing.T) {
	for _, s := range badTexts() {
		b := append([]byte{4}, num.PutText(nil, s)...)
		checkGet(t, b, api.Raw{}, 0, api.ErrForm)
		checkGet(t, append(bytes.Clone(b), "x"...), api.Raw{}, 0, api.ErrForm)
		// As long as it has not all come, num's error is ahead.
		checkGet(t, b[:len(b)-1], api.Raw{}, 0, api.ErrMore)
	}
	// What behind a text makes it no UTF-8 is not the text's.
	checkGet(t, []byte("\x04\x04ab\xff"), api.Raw{Kind: api.VText, S: "ab"}, 4, api.OK)
}

func TestGetOfAllShortBytes(t *testing.T) {
	for i := range 1 << 24 {
		b := []byte{byte(i >> 16), byte(i >> 8), byte(i)}
		r, size, err := value.Get(b)
		if err != api.OK {
			if r != (api.Raw{}) || size != 0 {
				t.Fatalf("P0.2: Get(%x): %v, %d beside the error %d", b, r, size, err)
			}
			continue
		}
		if size < 1 || size > 3 || !bytes.Equal(value.Put(nil, r), b[:size]) || !utf8.ValidString(r.S) {
			t.Fatalf("P4.2: Get(%x): %v, %d", b, r, size)
		}
	}
}

// P0.1, P0.3, P0.4, P0.5

func TestLongLists(t *testing.T) {
	const n = 1 << 22
	for _, x := range []struct {
		c    byte
		r    api.Raw
		size int
		err  api.Errno
	}{
		{0, api.Raw{}, 1, api.OK},
		{1, api.Raw{}, 0, api.ErrForm},
		{2, api.Raw{Kind: api.VInt, N: 1}, 2, api.OK},
		{4, api.Raw{Kind: api.VText, S: "\x04\x04"}, 4, api.OK},
		{0xff, api.Raw{}, 0, api.ErrForm},
	} {
		b := bytes.Repeat([]byte{x.c}, n)
		checkGet(t, b, x.r, x.size, x.err)
		if got := value.Put(b, api.Raw{Kind: api.VText, S: "ab"}); string(got) != string(b)+"\x04\x04ab" {
			t.Errorf("P0.1: Put behind many %x", x.c)
		}
	}
	for _, unit := range []string{"x", "é", "\xff"} {
		if _, err := value.Of(api.Raw{Kind: api.VText, S: strings.Repeat(unit, n)}); err != api.ErrForm {
			t.Errorf("P0.1: Of many %q: %d", unit, err)
		}
	}
}

func TestPutOfWhatMayNotBeEnds(t *testing.T) {
	for _, r := range badRaws() {
		if got := value.Put([]byte("ab"), r); string(got) != "ab" {
			t.Errorf("P0.1: Put behind ab of %.60v: %.40x", r, got)
		}
		if got := value.Put(nil, r); len(got) > 0 {
			t.Errorf("P0.1: Put(nil, %.60v): %.40x", r, got)
		}
	}
}

// checkOwnMemory puts r behind a list with spare room, and holds that list and a second answer against what is written into the first.
func checkOwnMemory(t *testing.T, length int, r api.Raw) {
	t.Helper()
	whole := bytes.Repeat([]byte{0xee}, 64)
	before := bytes.Clone(whole)
	first, second := value.Put(whole[:length], r), value.Put(whole[:length], r)
	want := bytes.Clone(second)
	if !bytes.Equal(whole, before) {
		t.Errorf("P0.3: Put behind %d bytes of %.60v writes into its argument's memory", length, r)
	}
	room := first[:cap(first)]
	for i := range room {
		room[i] = 0x55
	}
	if !bytes.Equal(whole, before) || !bytes.Equal(second, want) {
		t.Errorf("P0.3: Put behind %d bytes of %.60v answers shared memory", length, r)
	}
}

func TestAnswersAreNewMemory(t *testing.T) {
	for _, length := range []int{0, 1, 40, 64} {
		for _, r := range []api.Raw{{}, {Kind: api.VInt, N: 300}, {Kind: api.VText, S: "text"}, {Kind: api.VText}, {N: 1}, {Kind: 3}} {
			checkOwnMemory(t, length, r)
		}
	}
}

func TestTextsAreNewMemory(t *testing.T) {
	s := strings.Repeat("small ", 10)
	v := of(t, api.Raw{Kind: api.VText, S: s})
	first, second := value.Raw(v).S, value.Raw(v).S
	if unsafe.StringData(first) == unsafe.StringData(s) || unsafe.StringData(first) == unsafe.StringData(second) {
		t.Error("P0.3: Raw's text shares memory with Of's, or with another one of Raw's")
	}
}

func TestTextOutlivesItsBytes(t *testing.T) {
	b := value.Put(nil, api.Raw{Kind: api.VText, S: "pack horse"})
	before := bytes.Clone(b)
	r, _, _ := value.Get(b)
	if !bytes.Equal(b, before) {
		t.Error("P0.3: Get changes its argument")
	}
	clear(b)
	if r.S != "pack horse" {
		t.Errorf("P0.3: Get shares its argument's memory: %q", r.S)
	}
}

func TestNilIsEmpty(t *testing.T) {
	for _, r := range []api.Raw{{}, {Kind: api.VInt, N: 5}, {Kind: api.VText, S: "a"}, {Kind: 3}} {
		if !bytes.Equal(value.Put(nil, r), value.Put([]byte{}, r)) {
			t.Errorf("P0.4: Put behind nil of %v", r)
		}
	}
	checkGet(t, nil, api.Raw{}, 0, api.ErrMore)
	checkGet(t, []byte{}, api.Raw{}, 0, api.ErrMore)
}

func TestSameAnswerAgain(t *testing.T) {
	for _, r := range goodRaws() {
		v, b := of(t, r), value.Put(nil, r)
		value.Of(api.Raw{Kind: api.VInt, N: ^r.N})
		value.Put(b, api.Raw{Kind: api.VText, S: "other"})
		value.Get([]byte("\x04\x04ab"))
		panicOf(func() { value.MustInt(value.Value{}) })
		if value.Raw(v) != r || !value.Eq(v, of(t, r)) || !bytes.Equal(value.Put(nil, r), b) {
			t.Errorf("P0.5: %.60v is told otherwise the second time", r)
		}
		checkGet(t, b, r, len(b), api.OK)
	}
}
