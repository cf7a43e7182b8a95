package doc_test

import (
	"bytes"
	"fmt"
	"maps"
	"math"
	"slices"
	"strings"
	"testing"
	"unsafe"

	"packhorse/api"
	"packhorse/doc"
	"packhorse/num"
	"packhorse/op"
	"packhorse/runes"
	"packhorse/value"
)

func number(n int64) api.Raw { return api.Raw{Kind: api.VInt, N: n} }

func text(s string) api.Raw { return api.Raw{Kind: api.VText, S: s} }

func put(key string, v api.Raw) api.Op { return api.Op{Kind: api.OPut, Key: key, Val: v} }

func del(key string) api.Op { return api.Op{Kind: api.ODel, Key: key} }

func add(key string, n int64) api.Op { return api.Op{Kind: api.OAdd, Key: key, N: n} }

// cas gives key the value v, if it is old.
func cas(key string, v, old api.Raw) api.Op {
	return api.Op{Kind: api.OCas, Key: key, Val: v, Old: old}
}

func some(ops ...api.Op) []api.Op { return ops }

// model is what a document holds, as a plain map.
type model map[string]api.Raw

// do does o to m, as the document tells it.
func (m model) do(o api.Op) api.Errno {
	held, there := m[o.Key]
	v := o.Val
	switch {
	case !op.May(o):
		return api.ErrForm
	case o.Kind == api.OCas && held != o.Old:
		return api.ErrCas
	case o.Kind == api.OAdd && held.Kind == api.VText:
		return api.ErrKind
	case o.Kind == api.OAdd:
		if held.N > 1<<62 || held.N < -1<<62 || held.N+o.N > 1<<62 || held.N+o.N < -1<<62 {
			return api.ErrRange
		}
		v = number(held.N + o.N)
	}
	if v == (api.Raw{}) {
		delete(m, o.Key)
		return api.OK
	}
	if !there && len(m) == 50 {
		return api.ErrLimit
	}
	m[o.Key] = v
	return api.OK
}

// apply answers what m is behind ops, and their error.
func (m model) apply(ops []api.Op) (model, api.Errno) {
	if len(ops) == 0 || len(ops) > 8 {
		return m, api.ErrForm
	}
	next := maps.Clone(m)
	for _, o := range ops {
		if err := next.do(o); err != api.OK {
			return m, err
		}
	}
	return next, api.OK
}

// keys answers m's keys in order.
func (m model) keys() []string {
	return slices.SortedFunc(maps.Keys(m), func(a, b string) int { return slices.Compare([]rune(a), []rune(b)) })
}

// bytes answers m's bytes, as the document tells them.
func (m model) bytes() []byte {
	b := num.Put(nil, int64(len(m)))
	for _, k := range m.keys() {
		b = value.Put(num.PutText(b, k), m[k])
	}
	return b
}

// docOf answers a document that holds what m does.
func docOf(t *testing.T, m model) *doc.Doc {
	t.Helper()
	d := doc.New()
	for k, v := range m {
		if err := d.Apply(some(put(k, v))); err != api.OK {
			t.Fatalf("P6.1: a put of %.60q: %d", k, err)
		}
	}
	return d
}

// check holds d against m through all that d can be asked.
func check(t *testing.T, d *doc.Doc, m model) {
	t.Helper()
	if keys := d.Keys(); !slices.Equal(keys, m.keys()) {
		t.Fatalf("P6.1: Keys: %.300q, not %.300q", keys, m.keys())
	}
	for k, want := range m {
		if r, ok := d.Get(k); r != want || !ok {
			t.Errorf("P6.1: Get(%q): %v, %v, not %v", k, r, ok, want)
		}
	}
	if b := d.Encode(); !bytes.Equal(b, m.bytes()) {
		t.Errorf("P6.2: Encode: %.60x, not %.60x", b, m.bytes())
	}
}

func checkApply(t *testing.T, d *doc.Doc, m model, ops []api.Op, want api.Errno) model {
	t.Helper()
	next, err := m.apply(ops)
	if err != want {
		t.Fatalf("the test's own model says %d of %.300v, not %d", err, ops, want)
	}
	if got := d.Apply(ops); got != want {
		t.Fatalf("P6.1: Apply(%.300v): %d, not %d", ops, got, want)
	}
	check(t, d, next)
	return next
}

func checkNoDoc(t *testing.T, b []byte) {
	t.Helper()
	if d, err := doc.Decode(b); d != nil || err != api.ErrForm {
		t.Errorf("P6.2: Decode(%.60x of %d bytes): %v, %d", b, len(b), d != nil, err)
	}
}

func checkDecode(t *testing.T, b []byte, want model) {
	t.Helper()
	d, err := doc.Decode(b)
	if err != api.OK || d == nil {
		t.Fatalf("P6.2: Decode(%.60x of %d bytes): %v, %d", b, len(b), d != nil, err)
	}
	check(t, d, want)
}

// full answers 50 keys that may be, of many lengths and kinds of runes, and their values.
func full() model {
	m := model{}
	for i := range 50 {
		key := string([]rune{'a', 'é', '€', '😀', '~'}[i%5]) + strings.Repeat(string(rune('!'+i)), i%40)
		m[key] = number(int64(i) - 25)
		if i%3 == 0 {
			m[key] = text(strings.Repeat("x", 4*i))
		}
	}
	return m
}

// models answers what documents may hold.
func models() []model {
	l := []model{{}, full(), {"a": number(1), "b": text("x"), "c": number(-2)}, {" ": text(""), strings.Repeat("😀", 40): text(strings.Repeat("😀", 50))}}
	for _, n := range []int64{0, 1, -1, 63, 64, -64, -65, 1 << 40, 1<<62 + 1, math.MinInt64, math.MaxInt64} {
		l = append(l, model{"né": number(n)})
	}
	for _, s := range []string{"", "x", "né€\n\x00", strings.Repeat("x", 200)} {
		l = append(l, model{"\u0080": text(s)})
	}
	return l
}

// badOps answers operations that may not be.
func badOps() []api.Op {
	l := some(api.Op{}, put("a", api.Raw{}), put("a", api.Raw{Kind: 3}), put("a", text("\xff")), put("a", text(strings.Repeat("x", 201))),
		put("a", api.Raw{Kind: api.VInt, S: "x"}), cas("a", api.Raw{}, api.Raw{}), cas("a", number(1), api.Raw{N: 1}), cas("a", api.Raw{Kind: -1}, number(1)),
		add("a", 1<<40+1), add("a", -1<<40-1), add("a", math.MinInt64), add("a", math.MaxInt64),
		api.Op{Kind: 5, Key: "a"}, api.Op{Kind: -1, Key: "a"}, api.Op{Kind: 1<<32 + 2, Key: "a"},
		api.Op{Kind: api.ODel, Key: "a", N: 1}, api.Op{Kind: api.OAdd, Key: "a", Val: number(1)}, api.Op{Kind: api.OPut, Key: "a", Val: number(1), Old: number(1)})
	for _, key := range badKeys() {
		l = append(l, put(key, number(1)), del(key), add(key, 1), cas(key, number(1), api.Raw{}))
	}
	return l
}

func badKeys() []string {
	return []string{"", "\x00", "a\n", "\x7f", "\xff", "a\xc3", "\xed\xa0\x80", strings.Repeat("k", 41), strings.Repeat("😀", 41)}
}

// P6.1: Apply

func TestNewIsEmpty(t *testing.T) {
	d := doc.New()
	check(t, d, model{})
	if string(d.Encode()) != "\x00" {
		t.Errorf("P6.2: Encode of an empty document: %x", d.Encode())
	}
}

func TestApply(t *testing.T) {
	d, m := doc.New(), model{}
	one, x, none := number(1), text("x"), api.Raw{}
	for _, c := range []struct {
		ops []api.Op
		err api.Errno
	}{
		{some(put("a", one)), api.OK},
		{some(put("a", x)), api.OK},
		{some(put("a", one), put("b", text("")), put("c", number(0))), api.OK},
		{some(del("c")), api.OK},
		{some(del("c")), api.OK},
		{some(del("never")), api.OK},
		{some(add("n", 0)), api.OK},
		{some(add("n", 5), add("n", -7), add("m", -1<<40), add("m", 1<<40)), api.OK},
		{some(add("b", 0)), api.ErrKind},
		{some(cas("a", x, one)), api.OK},
		{some(cas("a", x, one)), api.ErrCas},
		{some(cas("a", x, x)), api.OK},
		{some(cas("a", x, none)), api.ErrCas},
		{some(cas("z", x, one)), api.ErrCas},
		{some(cas("z", none, one)), api.ErrCas},
		{some(cas("z", one, none)), api.OK},
		{some(cas("z", none, one)), api.OK},
		{some(cas("z", none, one)), api.ErrCas},
		{some(cas("b", one, number(0))), api.ErrCas},
		{some(cas("b", one, text(""))), api.OK},
		{some(put("b", text("1")), cas("b", one, one)), api.ErrCas},
		{some(put("c", number(0)), cas("c", one, none)), api.ErrCas},
		{some(put("c", number(0)), cas("c", one, text(""))), api.ErrCas},
	} {
		m = checkApply(t, d, m, c.ops, c.err)
	}
}

func TestApplyInOrder(t *testing.T) {
	d, m := doc.New(), model{}
	for _, ops := range [][]api.Op{
		some(put("a", number(1)), put("a", number(2))),
		some(put("a", number(2)), put("a", number(1))),
		some(put("b", number(5)), del("b")),
		some(del("b"), put("b", number(5))),
		some(put("b", text("x")), put("b", number(1)), add("b", 3), cas("b", text("y"), number(4)), cas("b", api.Raw{}, text("y")), add("b", 8), add("b", 9), cas("b", number(2), number(17))),
	} {
		m = checkApply(t, d, m, ops, api.OK)
	}
}

func TestApplyOfNoneAndOfTooMany(t *testing.T) {
	d, m := doc.New(), model{}
	m = checkApply(t, d, m, some(put("a", text("x"))), api.OK)
	checkApply(t, d, m, nil, api.ErrForm)
	checkApply(t, d, m, []api.Op{}, api.ErrForm)
	for n := 1; n < 40; n++ {
		want := api.OK
		if n > 8 {
			want = api.ErrForm
		}
		m = checkApply(t, d, m, slices.Repeat(some(add("n", 1)), n), want)
		// That there are too many is ahead of what each of them is.
		if n > 8 {
			checkApply(t, d, m, slices.Repeat(some(add("a", 1)), n), api.ErrForm)
		}
	}
	if r, ok := d.Get("n"); r != number(36) || !ok {
		t.Errorf("P6.1: 1 to 8 operations: %v", r)
	}
}

func TestApplyOfWhatMayNotBe(t *testing.T) {
	for _, m := range []model{{}, {"a": number(1)}, {"a": text("x")}, full()} {
		d := docOf(t, m)
		for _, o := range badOps() {
			checkApply(t, d, m, some(o), api.ErrForm)
			checkApply(t, d, m, some(put("é", number(9)), del("a"), o, o), api.ErrForm)
		}
	}
}

// A batch of 8 long texts may be more bytes than a batch has; Apply asks of each operation alone.
func TestApplyOfManyBytes(t *testing.T) {
	var ops []api.Op
	for i := range 8 {
		ops = append(ops, put(fmt.Sprint(i)+strings.Repeat("😀", 39), text(strings.Repeat("x", 200))))
	}
	checkApply(t, doc.New(), model{}, ops, api.OK)
}

// wrong answers an operation for each error, on a document that holds what wrongOn does.
func wrong() map[api.Errno]api.Op {
	return map[api.Errno]api.Op{
		api.ErrForm:  add("text", 1<<40+1),
		api.ErrCas:   cas("text", number(1), text("y")),
		api.ErrKind:  add("text", 1),
		api.ErrRange: add("far", 1),
		api.ErrLimit: put("new", number(1)),
	}
}

func wrongOn() model {
	m := model{"text": text("x"), "far": number(1 << 62), "free": number(1)}
	for i := range 47 {
		m[fmt.Sprint(i)] = number(int64(i))
	}
	return m
}

func TestAllOrNothing(t *testing.T) {
	m := wrongOn()
	d := docOf(t, m)
	good := some(put("free", number(7)), del("0"), put("0", text("y")), add("1", 5), cas("2", number(9), number(2)), cas("3", text("z"), number(3)), put("4", number(4)))
	for want, o := range wrong() {
		for n := range len(good) + 1 {
			checkApply(t, d, m, slices.Insert(slices.Clone(good), n, o), want)
		}
	}
	checkApply(t, d, m, good, api.OK)
}

func TestFirstError(t *testing.T) {
	m := wrongOn()
	d := docOf(t, m)
	for first, a := range wrong() {
		for _, b := range wrong() {
			checkApply(t, d, m, some(a, b), first)
			checkApply(t, d, m, some(put("free", number(7)), a, del("0"), b), first)
		}
	}
}

func TestAddAtTheEdges(t *testing.T) {
	var far []int64
	for _, at := range []int64{0, 1 << 61, 1 << 62, 1<<62 - 1<<40, 1<<62 + 1<<40, math.MaxInt64} {
		for k := int64(-2); k <= 2; k++ {
			far = append(far, at+min(k, math.MaxInt64-at), -at-k)
		}
	}
	far = append(far, math.MinInt64, math.MinInt64+1<<40, math.MinInt64+1<<40-1, math.MaxInt64-1<<40, math.MaxInt64-1<<40+1)
	for _, held := range far {
		for _, n := range []int64{0, 1, -1, 2, -2, 1<<40 - 1, -1<<40 + 1, 1 << 40, -1 << 40} {
			m := model{"a": number(held)}
			_, want := m.apply(some(add("a", n)))
			if want != api.OK && want != api.ErrRange {
				t.Fatalf("the test's own model says %d", want)
			}
			checkApply(t, docOf(t, m), m, some(add("a", n)), want)
		}
	}
}

func TestAddRange(t *testing.T) {
	for _, x := range []struct {
		held, n int64
		err     api.Errno
	}{
		{1 << 62, 0, api.OK}, {-1 << 62, 0, api.OK}, {1 << 62, -1, api.OK}, {-1 << 62, 1, api.OK}, {1<<62 - 1, 1, api.OK}, {-1<<62 + 1, -1, api.OK},
		{1 << 62, 1, api.ErrRange}, {-1 << 62, -1, api.ErrRange}, {1<<62 - 1, 2, api.ErrRange}, {-1<<62 + 1, -2, api.ErrRange},
		{1<<62 + 1, 0, api.ErrRange}, {1<<62 + 1, -1, api.ErrRange}, {1<<62 + 1, -9, api.ErrRange}, {-1<<62 - 1, 0, api.ErrRange}, {-1<<62 - 1, 1, api.ErrRange},
		{math.MaxInt64, 1, api.ErrRange}, {math.MinInt64, -1, api.ErrRange}, {math.MaxInt64, 1 << 40, api.ErrRange}, {math.MinInt64, -1 << 40, api.ErrRange},
	} {
		d := docOf(t, model{"a": number(x.held)})
		want := number(x.held)
		if x.err == api.OK {
			want.N += x.n
		}
		if err := d.Apply(some(add("a", x.n))); err != x.err {
			t.Errorf("P6.1: %d and %d more: %d", x.held, x.n, err)
		}
		if r, _ := d.Get("a"); r != want {
			t.Errorf("P6.1: %d and %d more: %v", x.held, x.n, r)
		}
	}
}

func TestMaxKeys(t *testing.T) {
	d, m := doc.New(), model{}
	for i := range 50 {
		ops := some(put(fmt.Sprint("k", i), number(int64(i))), add(fmt.Sprint("k", i), 1), cas(fmt.Sprint("k", i), text("x"), api.Raw{}))
		m = checkApply(t, d, m, ops[i%2:i%2+1], api.OK)
	}
	one := number(1)
	for _, c := range []struct {
		ops []api.Op
		err api.Errno
	}{
		{some(put("x", one)), api.ErrLimit},
		{some(add("x", 1)), api.ErrLimit},
		{some(cas("x", one, api.Raw{})), api.ErrLimit},
		{some(cas("x", one, one)), api.ErrCas},
		{some(del("x")), api.OK},
		{some(put("k7", text("y"))), api.OK},
		{some(cas("k7", one, text("y"))), api.OK},
		{some(add("k7", 1)), api.OK},
		{some(put("x", one), del("x")), api.ErrLimit},
		{some(put("x", one), del("k7")), api.ErrLimit},
		{some(del("k7"), put("x", one), put("y", one)), api.ErrLimit},
		{some(del("k7"), put("x", one), add("x", 1)), api.OK},
		{some(cas("x", api.Raw{}, number(2)), add("k7", 3)), api.OK},
		{some(put("x", one)), api.ErrLimit},
	} {
		m = checkApply(t, d, m, c.ops, c.err)
	}
	if len(d.Keys()) != 50 {
		t.Errorf("P6.1: %d keys", len(d.Keys()))
	}
}

// P6.1: Get, Keys

func TestGetOfWhatIsNotThere(t *testing.T) {
	d := docOf(t, full())
	for _, key := range append(badKeys(), "b", "aa", "A", "zz", "\uFFFD", "\U0010FFFF", strings.Repeat("a", 1<<20), "é\xff") {
		if r, ok := d.Get(key); r != (api.Raw{}) || ok {
			t.Errorf("P6.1: Get(%.60q): %v, %v", key, r, ok)
		}
	}
	d.Apply(some(put("gone", number(1)), del("gone")))
	if r, ok := d.Get("gone"); r != (api.Raw{}) || ok {
		t.Errorf("P6.1: Get of what went: %v, %v", r, ok)
	}
}

func TestKeysInOrder(t *testing.T) {
	want := []string{" ", "!", "10", "9", "A", "AA", "AB", "B", "Z", "a", "aA", "aa", "ab", "é", "éa", "€", "\uE000", "\uFFFD", "\uFFFF", "\U00010000", "😀", "\U0010FFFF"}
	d := doc.New()
	for i := range want {
		// 5 and the count have no divisor in common, so that each key comes once, in no order of theirs.
		d.Apply(some(put(want[5*i%len(want)], number(int64(i)))))
	}
	if keys := d.Keys(); !slices.Equal(keys, want) || !slices.IsSortedFunc(keys, lessFirst) {
		t.Errorf("P6.1: Keys: %q", keys)
	}
	for i, key := range want {
		d.Apply(some(del(key)))
		if keys := d.Keys(); !slices.Equal(keys, want[i+1:]) {
			t.Errorf("P6.1: Keys without %q: %q", key, keys)
		}
	}
}

func lessFirst(a, b string) int {
	if runes.Less(a, b) {
		return -1
	}
	return 1
}

// P6.1: Copy, Eq

func TestCopy(t *testing.T) {
	for _, m := range models() {
		d := docOf(t, m)
		e := d.Copy()
		check(t, e, m)
		if !e.Eq(d) || !d.Eq(e) || !d.Eq(d) {
			t.Errorf("P6.1: a copy is not Eq: %.300v", m)
		}
		changed := some(del(firstKey(m)), put("new", number(5)))
		next := checkApply(t, e, m, changed, api.OK)
		check(t, d, m)
		f := e.Copy()
		for key := range next {
			d.Apply(some(put(key, text("other"))))
			e.Apply(some(del(key)))
		}
		check(t, f, next)
	}
}

// firstKey answers a key of m's, or one that may be where there is none.
func firstKey(m model) string { return append(m.keys(), "a")[0] }

func TestEq(t *testing.T) {
	l := append(models(), model{"a": number(0)}, model{"a": text("")}, model{"a": text("0")}, model{"b": number(0)}, model{"a": number(0), "b": number(0)},
		model{"a": number(0), "b": number(1)}, model{"a": number(1), "b": number(0)}, model{"ab": text("c")}, model{"a": text("bc")})
	for i, a := range l {
		for k, b := range l {
			if got := docOf(t, a).Eq(docOf(t, b)); got != (i == k) {
				t.Errorf("P6.1: Eq of %.300v and %.300v: %v", a, b, got)
			}
		}
	}
}

func TestEqOfAnotherWay(t *testing.T) {
	d, e := doc.New(), doc.New()
	d.Apply(some(put("a", number(1)), put("b", text("x")), put("c", number(3))))
	e.Apply(some(put("c", text("y")), add("d", 5), put("b", text("x")), del("d")))
	e.Apply(some(cas("c", number(1), text("y")), add("a", 1), add("c", 2)))
	if !d.Eq(e) || !e.Eq(d) || !bytes.Equal(d.Encode(), e.Encode()) {
		t.Error("P6.1: what is held is the same, but not Eq")
	}
}

// P6.1: nil, and a document that New did not make

func TestNilDoc(t *testing.T) {
	var d *doc.Doc
	if r, ok := d.Get("a"); r != (api.Raw{}) || ok {
		t.Errorf("P6.1: Get of nil: %v, %v", r, ok)
	}
	for _, ops := range [][]api.Op{nil, some(put("a", number(1))), some(del("a")), some(add("a", 1)), some(cas("a", number(1), number(1))), slices.Repeat(some(del("a")), 9)} {
		if err := d.Apply(ops); err != api.ErrForm {
			t.Errorf("P6.1: Apply(%v) of nil: %d", ops, err)
		}
	}
	if len(d.Keys()) != 0 || d.Copy() != nil || len(d.Encode()) != 0 {
		t.Error("P6.1: nil has something")
	}
	for _, e := range []*doc.Doc{doc.New(), {}, docOf(t, full())} {
		if d.Eq(e) || e.Eq(d) || e.Eq(nil) {
			t.Error("P6.1: nil and another one are Eq")
		}
	}
	if !d.Eq(nil) || !d.Eq(d) {
		t.Error("P6.1: nil and nil are not Eq")
	}
}

func TestZeroDoc(t *testing.T) {
	var d doc.Doc
	check(t, &d, model{})
	check(t, d.Copy(), model{})
	if !d.Eq(doc.New()) || !doc.New().Eq(&d) {
		t.Error("P6.1: the zero document is not Eq to a new one")
	}
	checkApply(t, &d, model{}, some(put("a", number(1)), add("b", 2)), api.OK)
}

// P6.2

func TestEncodeOfKnownDocuments(t *testing.T) {
	for want, m := range map[string]model{
		"\x00":                            {},
		"\x02\x02a\x02\x00":               {"a": number(0)},
		"\x02\x02a\x04\x00":               {"a": text("")},
		"\x02\x04é\x02\x81\x01":           {"é": number(-65)},
		"\x04\x02a\x04\x02x\x02b\x02\x01": {"b": number(-1), "a": text("x")},
		"\x06\x02Z\x02\x02\x02a\x02\x04\x04aa\x04\x06né": {"aa": text("né"), "Z": number(1), "a": number(2)},
	} {
		if got := docOf(t, m).Encode(); string(got) != want {
			t.Errorf("P6.2: Encode(%v): %x, not %x", m, got, want)
		}
		checkDecode(t, []byte(want), m)
	}
}

func TestDocumentsGoThereAndBack(t *testing.T) {
	for _, m := range models() {
		d := docOf(t, m)
		check(t, d, m)
		checkDecode(t, m.bytes(), m)
		e, _ := doc.Decode(d.Encode())
		if !e.Eq(d) || !d.Eq(e) {
			t.Errorf("P6.2: Decode of Encode is not Eq: %.300v", m)
		}
		checkApply(t, e, m, some(del(firstKey(m)), put("new", number(5)), add("new", 1)), api.OK)
	}
}

func TestDecodeOfBeginningsAndOfMore(t *testing.T) {
	for _, m := range models() {
		b := m.bytes()
		for n := range b {
			checkNoDoc(t, b[:n])
		}
		for _, tail := range []string{"\x00", "\x80", "\xff", "\x02a\x02\x02", string(b)} {
			checkNoDoc(t, append(bytes.Clone(b), tail...))
		}
	}
}

func TestDecodeOfAnotherCount(t *testing.T) {
	for n := range 60 {
		var rows []byte
		m := model{}
		for i := range n {
			key := fmt.Sprint(100 + i)
			m[key] = number(int64(i))
			rows = value.Put(num.PutText(rows, key), m[key])
		}
		for _, count := range []int64{math.MinInt64, -1, 0, 1, 2, 48, 49, 50, 51, 52, 256, 1 << 32, 1<<32 + 1, math.MaxInt64, int64(n), int64(n) - 1, int64(n) + 1, int64(-n) - 1} {
			b := append(num.Put(nil, count), rows...)
			if count == int64(n) && n <= 50 {
				checkDecode(t, b, m)
			} else {
				checkNoDoc(t, b)
			}
		}
	}
}

func TestDecodeOfWhatMayNotBe(t *testing.T) {
	for _, key := range badKeys() {
		checkNoDoc(t, value.Put(num.PutText([]byte{2}, key), number(1)))
	}
	for _, s := range []string{
		"\x02\x02a\x00",                       // none
		"\x02\x02a\x06",                       // no kind
		"\x02\x02a\x01\x00",                   // a kind below 0
		"\x02\x02a\x04\x02\xff",               // no UTF-8
		"\x02\x01a\x02\x02",                   // a length below 0
		"\x04\x02b\x02\x02\x02a\x02\x02",      // not in order
		"\x04\x02a\x02\x02\x02a\x02\x02",      // twice
		"\x04\x02a\x02\x02\x02a\x02\x04",      // twice, another value
		"\x04\x04aa\x02\x02\x02a\x02\x02",     // a beginning comes first
		"\x04\x06\uFFFD\x02\x02\x04é\x02\x02", // not in order of runes
		"\x04\x08\U00010000\x02\x02\x06\uFFFF\x02\x02",
		"\x06\x02a\x02\x02\x02c\x02\x02\x02b\x02\x02",
		"\x82\x00\x02a\x02\x02", // numbers longer than needed
		"\x02\x82\x00a\x02\x02",
		"\x02\x02a\x82\x00\x02",
		"\x02\x02a\x02\x82\x00",
		"\x02\x02a\x04\x82\x00x",
		"\x80\x00",
		"\x02\x02a\x02\xff\xff\xff\xff\xff\xff\xff\xff\xff\x02", // beyond an int64
	} {
		checkNoDoc(t, []byte(s))
	}
	for _, s := range []string{strings.Repeat("x", 201), strings.Repeat("x", 199) + "é", strings.Repeat("x", 1<<20)} {
		checkNoDoc(t, num.PutText([]byte("\x02\x02a\x04"), s))
	}
}

// Just of a document's bytes: whatever byte is another one, the document that Decode tells has those bytes.
func TestDecodeOfOtherBytes(t *testing.T) {
	taken := 0
	for _, m := range []model{{}, {"a": number(1), "c": text("x"), "né": number(-65)}, {"b": text("€"), "bb": number(1 << 40)}} {
		b := m.bytes()
		for i := range b {
			for c := range 256 {
				other := bytes.Clone(b)
				other[i] = byte(c)
				d, err := doc.Decode(other)
				if err != api.OK {
					checkNoDoc(t, other)
					continue
				}
				taken++
				if !bytes.Equal(d.Encode(), other) || !slices.IsSortedFunc(d.Keys(), lessFirst) {
					t.Errorf("P6.2: Decode(%x): %q", other, d.Keys())
				}
			}
		}
	}
	if taken < 300 {
		t.Errorf("P6.2: Decode takes only %d of the others", taken)
	}
}

// What Apply made of many batches is what a plain map makes of them.
func TestManyBatches(t *testing.T) {
	d, m := doc.New(), model{}
	seen := map[api.Errno]int{}
	state := uint64(1)
	pick := func(n int) int {
		state = state*6364136223846793005 + 1442695040888963407
		return int(state >> 33 % uint64(n))
	}
	values := []api.Raw{{}, number(0), number(1), number(1 << 62), number(math.MinInt64), text(""), text("x"), text("1")}
	for range 20000 {
		ops := make([]api.Op, pick(10))
		for i := range ops {
			key := fmt.Sprint("k", pick(58))
			v := values[pick(len(values))]
			ops[i] = some(put(key, values[1+pick(7)]), add(key, int64(pick(5)-2)), cas(key, v, m[key]), cas(key, v, values[pick(len(values))]), del(key), put(key, number(2)), put(key, number(3)))[pick(7)]
			if len(m) > 20 && pick(300) == 0 {
				ops[i] = some(api.Op{}, del("k1"))[pick(2)]
			}
		}
		after, want := m.apply(ops)
		if err := d.Apply(ops); err != want {
			t.Fatalf("P6.1: Apply(%v): %d, not %d", ops, err, want)
		}
		seen[want]++
		m = after
	}
	check(t, d, m)
	for _, err := range []api.Errno{api.OK, api.ErrForm, api.ErrCas, api.ErrKind, api.ErrRange, api.ErrLimit} {
		if seen[err] < 50 {
			t.Errorf("P6.1: only %d batches of error %d", seen[err], err)
		}
	}
}

// P0.1, P0.3, P0.4, P0.5

func TestLongLists(t *testing.T) {
	const n = 1 << 22
	for _, unit := range []string{"\x00", "\x01", "\x02", "\x04", "\x64", "\x80", "\xff", "\x64\x80\x80\x80\x01"} {
		checkNoDoc(t, []byte(strings.Repeat(unit, n)))
	}
	long := strings.Repeat("x", n)
	m := full()
	d := docOf(t, m)
	for _, o := range some(del(long), put("a", text(long)), cas("a", text(long), text(long)), add(long, 1)) {
		if d.Apply(some(o)) != api.ErrForm || d.Apply(slices.Repeat(some(o), 1<<16)) != api.ErrForm {
			t.Error("P0.1: a long operation, or many of them, may be")
		}
	}
	if _, ok := d.Get(long); ok {
		t.Error("P0.1: a long key is there")
	}
	check(t, d, m)
}

func TestOperationsAreNotChanged(t *testing.T) {
	room := slices.Repeat(some(api.Op{Kind: 9, Key: "room"}), 20)
	copy(room, some(put("a", number(1)), del("b"), add("c", 2), cas("c", text("x"), number(2))))
	before := slices.Clone(room)
	d := doc.New()
	d.Apply(room[:4])
	if !slices.Equal(room, before) {
		t.Error("P0.3: Apply changes its operations, or their spare room")
	}
	clear(room)
	check(t, d, model{"a": number(1), "c": text("x")})
}

func TestBytesAreNotChanged(t *testing.T) {
	m := full()
	whole := append(m.bytes(), "spare room"...)
	before := bytes.Clone(whole)
	d, _ := doc.Decode(whole[:len(m.bytes())])
	if !bytes.Equal(whole, before) {
		t.Error("P0.3: Decode changes its argument")
	}
	clear(whole)
	check(t, d, m)
}

func TestAnswersAreNewMemory(t *testing.T) {
	m := full()
	d := docOf(t, m)
	keys, b := d.Keys(), d.Encode()
	otherKeys, other := d.Keys(), d.Encode()
	clear(keys[:cap(keys)])
	clear(b[:cap(b)])
	if !slices.Equal(otherKeys, m.keys()) || !bytes.Equal(other, m.bytes()) {
		t.Error("P0.3: two answers share memory")
	}
	check(t, d, m)
}

func TestTextsAreNewMemory(t *testing.T) {
	key, s := "pack", "horse"
	d := doc.New()
	d.Apply(some(put(key, text(s)), cas("b", text(s), api.Raw{})))
	a, _ := d.Get(key)
	b, _ := d.Get("b")
	again, _ := d.Get(key)
	copied, _ := d.Copy().Get(key)
	texts := []string{key, s, a.S, b.S, again.S, copied.S}
	for range 2 {
		texts = append(texts, d.Keys()[1])
	}
	for i, x := range texts {
		for _, y := range texts[:i] {
			if unsafe.StringData(x) == unsafe.StringData(y) {
				t.Errorf("P0.3: two texts share memory: %q", x)
			}
		}
	}
}

// Texts can't be written into, so their memory is turned beneath them: a document that kept them would tell others.
func TestTextsAreNotKept(t *testing.T) {
	memory := []byte("pack horse")
	s := unsafe.String(&memory[0], len(memory))
	d := doc.New()
	d.Apply(some(put(s[:4], text(s[5:])), cas(s[5:], text(s[:4]), api.Raw{}), add(s, 1)))
	clear(memory)
	check(t, d, model{"pack": text("horse"), "horse": text("pack"), "pack horse": number(1)})
}

func TestNilIsEmpty(t *testing.T) {
	checkNoDoc(t, nil)
	checkNoDoc(t, []byte{})
	d := doc.New()
	if d.Apply(nil) != d.Apply([]api.Op{}) {
		t.Error("P0.4: no operations, told in two ways, are not the same")
	}
}

func TestSameAnswerAgain(t *testing.T) {
	m := full()
	d, other := docOf(t, m), doc.New()
	for _, o := range badOps() {
		other.Apply(some(put("a", text("other"))))
		d.Apply(some(put("a", text("other")), o))
		doc.Decode([]byte("\x02\x02a\x04\x02"))
		d.Get("b")
		check(t, d, m)
		checkDecode(t, m.bytes(), m)
	}
}
