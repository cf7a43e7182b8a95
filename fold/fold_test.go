package fold_test

import (
	"bytes"
	"fmt"
	"math"
	"reflect"
	"slices"
	"strings"
	"testing"
	"unsafe"

	"packhorse/api"
	"packhorse/doc"
	"packhorse/fold"
	"packhorse/num"
	"packhorse/op"
)

func number(n int64) api.Raw { return api.Raw{Kind: api.VInt, N: n} }

func text(s string) api.Raw { return api.Raw{Kind: api.VText, S: s} }

func put(key string, v api.Raw) api.Op { return api.Op{Kind: api.OPut, Key: key, Val: v} }

func del(key string) api.Op { return api.Op{Kind: api.ODel, Key: key} }

func add(key string, n int64) api.Op { return api.Op{Kind: api.OAdd, Key: key, N: n} }

// cas gives key the value v, if it is old.
func cas(key string, v, old api.Raw) api.Op {
	return api.Op{Kind: api.OCas, Key: key, Val: v, Old: old}
}

func batch(client int, seq int64, ops ...api.Op) api.Batch {
	return api.Batch{Client: client, Seq: seq, Ops: ops}
}

// brief tells v, but no more than a line of it.
func brief(v any) string { return fmt.Sprintf("%.300s", fmt.Sprint(v)) }

// model is a fold's state, as the document tells it: a row of Place 0 is none.
type model struct {
	place int64
	doc   *doc.Doc
	rows  [5]api.Row
}

func newModel() *model { return &model{doc: doc.New()} }

func (m *model) copy() *model { return &model{m.place, m.doc.Copy(), m.rows} }

func (m *model) next(b api.Batch) (api.Row, bool) {
	if !op.MayBatch(b) || m.rows[b.Client-1].B.Seq != b.Seq-1 {
		return api.Row{}, false
	}
	m.place++
	r := api.Row{Place: m.place, B: b, Err: m.doc.Apply(b.Ops)}
	r.B.Ops = slices.Clone(b.Ops)
	m.rows[b.Client-1] = r
	return r, true
}

// told answers what is to be told of client.
func (m *model) told(client int) (api.Row, bool) {
	if client < 1 || client > 5 {
		return api.Row{}, false
	}
	r := m.rows[client-1]
	return r, r.Place != 0
}

// bytes answers m's bytes, as the document tells them.
func (m *model) bytes() []byte {
	var rows []string
	for _, r := range m.rows {
		rows = append(rows, rowBytes(r))
	}
	return foldBytes(m.place, string(m.doc.Encode()), rows...)
}

// rowBytes answers the bytes of a client whose last row is r.
func rowBytes(r api.Row) string {
	if r.Place == 0 {
		return "\x00"
	}
	return lastBytes(r.B.Seq, r.Place, string(op.Encode(r.B)), int64(r.Err))
}

// lastBytes answers the bytes of a client that has come to seq, whether they may be or not.
func lastBytes(seq, place int64, batch string, err int64) string {
	return string(num.Put(num.PutText(num.Put(num.Put(nil, seq), place), batch), err))
}

// foldBytes answers the bytes of a fold, whether they may be or not.
func foldBytes(place int64, doc string, clients ...string) []byte {
	return append(num.PutText(num.Put(nil, place), doc), strings.Join(clients, "")...)
}

// clients answers numbers of clients, those that may be and others.
func clients() []int {
	return []int{1, 2, 3, 4, 5, 0, -1, 6, 7, 1 << 8, 1<<32 + 1, 1<<40 + 1, math.MinInt, math.MinInt + 1, math.MaxInt}
}

// check holds f against m through all that f can be asked.
func check(t *testing.T, f *fold.Fold, m *model) {
	t.Helper()
	if f.Place() != m.place {
		t.Errorf("P7.1: Place: %d, not %d", f.Place(), m.place)
	}
	if d := f.Doc(); d == nil || !d.Eq(m.doc) {
		t.Errorf("P7.1: Doc: %.60x, not %.60x", d.Encode(), m.doc.Encode())
	}
	for _, c := range clients() {
		want, there := m.told(c)
		if got := f.Last(c); got != want.B.Seq {
			t.Errorf("P7.1: Last(%d): %d, not %d", c, got, want.B.Seq)
		}
		if r, ok := f.Told(c); ok != there || !reflect.DeepEqual(r, want) {
			t.Errorf("P7.1: Told(%d): %s, %v, not %s", c, brief(r), ok, brief(want))
		}
	}
	if b := f.Encode(); !bytes.Equal(b, m.bytes()) {
		t.Errorf("P7.2: Encode: %.60x, not %.60x", b, m.bytes())
	}
}

// checkNext plays b in f and in m.
func checkNext(t *testing.T, f *fold.Fold, m *model, b api.Batch) {
	t.Helper()
	want, takes := m.next(b)
	if r, ok := f.Next(b); ok != takes || !reflect.DeepEqual(r, want) {
		t.Fatalf("P7.1: Next(%s): %s, %v, not %s, %v", brief(b), brief(r), ok, brief(want), takes)
	}
	check(t, f, m)
}

// checkRow plays b in f and in m, and holds it against what the test itself says comes of it.
func checkRow(t *testing.T, f *fold.Fold, m *model, b api.Batch, err api.Errno) {
	t.Helper()
	place := f.Place()
	checkNext(t, f, m, b)
	r, ok := f.Told(b.Client)
	if !ok || r.Err != err || r.Place != place+1 || f.Place() != place+1 || f.Last(b.Client) != b.Seq {
		t.Fatalf("P7.1: %s: error %d at %d, not %d at %d", brief(b), r.Err, r.Place, err, place+1)
	}
}

// checkNot plays b in f, which must not take it.
func checkNot(t *testing.T, f *fold.Fold, m *model, b api.Batch) {
	t.Helper()
	if r, ok := f.Next(b); ok || !reflect.DeepEqual(r, api.Row{}) {
		t.Errorf("P7.1: Next(%s): %s, %v", brief(b), brief(r), ok)
	}
	check(t, f, m)
}

func checkNoFold(t *testing.T, b []byte) {
	t.Helper()
	if f, err := fold.Decode(b); f != nil || err != api.ErrForm {
		t.Errorf("P7.2: Decode(%.60x of %d bytes): %v, %d", b, len(b), f != nil, err)
	}
}

func checkDecode(t *testing.T, b []byte, want *model) *fold.Fold {
	t.Helper()
	f, err := fold.Decode(b)
	if err != api.OK || f == nil {
		t.Fatalf("P7.2: Decode(%.60x of %d bytes): %v, %d", b, len(b), f != nil, err)
	}
	check(t, f, want)
	return f
}

// full answers batches behind which there are 50 keys.
func full() []api.Batch {
	var l []api.Batch
	for i := range 10 {
		var ops []api.Op
		for k := range 5 {
			ops = append(ops, put(fmt.Sprint("k", 5*i+k), text(strings.Repeat("é", 2*i))))
		}
		l = append(l, batch(1+i%5, int64(1+i/5), ops...))
	}
	return l
}

// longest answers a batch of 1,200 bytes.
func longest(t *testing.T, client int, seq int64) api.Batch {
	t.Helper()
	ops := slices.Repeat([]api.Op{put("a", text(strings.Repeat("x", 200)))}, 6)
	for n := range 200 {
		ops[5].Val = text(strings.Repeat("x", n))
		if b := batch(client, seq, ops...); len(op.Encode(b)) == 1200 {
			return b
		}
	}
	t.Fatal("no batch of 1,200 bytes")
	return api.Batch{}
}

// wrong answers operations, and the error that comes of each behind wrongOn.
func wrong() map[api.Errno]api.Op {
	return map[api.Errno]api.Op{
		api.ErrCas:   cas("k0", number(1), text("y")),
		api.ErrKind:  add("k0", 1),
		api.ErrRange: add("far", 1),
		api.ErrLimit: put("new", number(1)),
	}
}

func wrongOn() []api.Batch { return append(full(), batch(1, 3, del("k9"), put("far", number(1<<62)))) }

// lists answers batches to play one behind the other.
func lists(t *testing.T) [][]api.Batch {
	l := [][]api.Batch{
		nil,
		{batch(1, 1, put("a", number(1)))},
		{batch(5, 1, add("né", -65)), batch(5, 2, add("né", 1))},
		{batch(3, 1, add("a", 0))},
		{batch(2, 1, put("a", text("x"))), batch(4, 1, add("a", 1)), batch(2, 2, del("a"))},
		{longest(t, 2, 1), batch(1, 1, del("a"))},
		full(),
	}
	errs := wrongOn()
	seq := int64(0)
	for _, err := range []api.Errno{api.ErrCas, api.ErrKind, api.ErrRange, api.ErrLimit} {
		seq++
		errs = append(errs, batch(int(seq)+1, 3, wrong()[err]))
	}
	return append(l, errs)
}

// played answers the fold and the model behind l.
func played(t *testing.T, l []api.Batch) (*fold.Fold, *model) {
	t.Helper()
	f, m := fold.New(), newModel()
	for _, b := range l {
		if _, ok := f.Next(b); !ok {
			t.Fatalf("P7.1: Next(%s): false", brief(b))
		}
		m.next(b)
	}
	check(t, f, m)
	return f, m
}

// P7.1: Next, Place, Doc, Last, Told

func TestNewIsEmpty(t *testing.T) {
	f := fold.New()
	check(t, f, newModel())
	if f.Place() != 0 || f.Last(1) != 0 || len(f.Doc().Keys()) != 0 {
		t.Error("P7.1: New is not empty")
	}
	if string(f.Encode()) != "\x00\x02\x00\x00\x00\x00\x00\x00" {
		t.Errorf("P7.2: Encode of an empty fold: %x", f.Encode())
	}
}

func TestNext(t *testing.T) {
	f, m := fold.New(), newModel()
	one, x := number(1), text("x")
	for _, c := range []struct {
		b   api.Batch
		err api.Errno
	}{
		{batch(1, 1, put("a", one)), api.OK},
		{batch(1, 2, put("a", x), put("b", one)), api.OK},
		{batch(5, 1, add("a", 1)), api.ErrKind},
		{batch(2, 1, cas("a", one, x)), api.OK},
		{batch(5, 2, cas("a", one, x)), api.ErrCas},
		{batch(5, 3, add("a", 2)), api.OK},
		{batch(1, 3, del("never")), api.OK},
		{batch(4, 1, put("c", one), add("c", 5), del("c"), cas("c", x, api.Raw{}), put("d", x), del("b"), del("b"), add("e", 0)), api.OK},
		{batch(3, 1, put("far", number(1<<62+1))), api.OK},
		{batch(3, 2, put("a", x), add("far", -1)), api.ErrRange},
		{batch(3, 3, add("n", 1<<40), add("n", -1<<40)), api.OK},
	} {
		checkRow(t, f, m, c.b, c.err)
	}
	if f.Place() != 11 || f.Last(1) != 3 || f.Last(2) != 1 || f.Last(3) != 3 || f.Last(4) != 1 || f.Last(5) != 3 {
		t.Errorf("P7.1: Place %d", f.Place())
	}
	if r, ok := f.Doc().Get("a"); r != number(3) || !ok {
		t.Errorf("P7.1: Doc: a is %v", r)
	}
}

// A batch that does nothing counts, too: it has a place, and its client goes on behind it.
func TestBatchesThatDoNothing(t *testing.T) {
	for want, o := range wrong() {
		f, m := played(t, wrongOn())
		before := f.Doc()
		for client := 1; client <= 5; client++ {
			seq := f.Last(client) + 1
			checkRow(t, f, m, batch(client, seq, put("k2", text("other")), put("k3", number(1)), add("k3", 1), o), want)
			checkRow(t, f, m, batch(client, seq+1, o, put("k2", text("other"))), want)
			checkNot(t, f, m, batch(client, seq+1, o))
		}
		if !f.Doc().Eq(before) {
			t.Errorf("P7.1: a batch of error %d changes the document", want)
		}
		checkRow(t, f, m, batch(1, f.Last(1)+1, put("k2", text("other"))), api.OK)
	}
}

func TestBatchesOfAnotherNumber(t *testing.T) {
	for _, l := range lists(t) {
		f, m := played(t, l)
		for client := 1; client <= 5; client++ {
			last := f.Last(client)
			for _, seq := range []int64{last, last - 1, last + 2, last + 3, last + 1<<8, last + 1<<32 + 1, -last - 1, 1 << 40, 1<<40 + 1, math.MinInt64, math.MinInt64 + last + 1, math.MaxInt64} {
				checkNot(t, f, m, batch(client, seq, add("a", 1)))
			}
			checkRow(t, f, m, batch(client, last+1, del("a")), api.OK)
		}
	}
}

// badBatches answers batches that may not be, though they would be the next ones of a new fold's clients.
func badBatches() []api.Batch {
	one := add("a", 1)
	l := []api.Batch{{}, batch(1, 1), batch(1, 1, []api.Op{}...), batch(1, 1, api.Op{}), batch(1, 1, one, api.Op{}), batch(1, 1, slices.Repeat([]api.Op{one}, 9)...),
		batch(1, 1, add("", 1)), batch(1, 1, add("a\n", 1)), batch(1, 1, add(strings.Repeat("k", 41), 1)), batch(1, 1, add("a", 1<<40+1)), batch(1, 1, add("a", math.MinInt64)),
		batch(1, 1, put("a", api.Raw{})), batch(1, 1, put("a", text("\xff"))), batch(1, 1, put("a", text(strings.Repeat("x", 201)))), batch(1, 1, cas("a", api.Raw{}, api.Raw{})),
		batch(1, 1, api.Op{Kind: api.ODel, Key: "a", N: 1}), batch(1, 1, api.Op{Kind: 5, Key: "a"}), batch(1, 1, one, one, put("a", api.Raw{Kind: 3}))}
	for _, client := range clients()[5:] {
		l = append(l, batch(client, 1, one))
	}
	return l
}

func TestBatchesThatMayNotBe(t *testing.T) {
	f, m := fold.New(), newModel()
	for range 2 {
		for _, b := range badBatches() {
			checkNot(t, f, m, b)
		}
		checkRow(t, f, m, batch(2, f.Last(2)+1, put("a", text("x"))), api.OK)
	}
}

// doc's Apply asks of each operation alone; a fold's batch has its length, too.
func TestLongestBatch(t *testing.T) {
	f, m := fold.New(), newModel()
	b := longest(t, 4, 1)
	longer := batch(4, 1, slices.Clone(b.Ops)...)
	longer.Ops[5].Val.S += "x"
	if doc.New().Apply(longer.Ops) != api.OK {
		t.Fatal("the longer batch's operations may not be")
	}
	checkNot(t, f, m, longer)
	checkRow(t, f, m, b, api.OK)
}

func TestToldIsTheLastOne(t *testing.T) {
	f, m := fold.New(), newModel()
	for seq := int64(1); seq <= 20; seq++ {
		for client := 1; client <= 5; client += 1 + int(seq%2) {
			checkNext(t, f, m, batch(client, f.Last(client)+1, add("a", seq), put("b", number(int64(client)))))
		}
		if r, _ := f.Told(1); r.Place != f.Place()-4+2*(seq%2) || r.B.Seq != seq || r.B.Ops[0].N != seq {
			t.Fatalf("P7.1: Told(1) behind %d: %v", seq, r)
		}
	}
}

func TestDocIsACopy(t *testing.T) {
	for _, l := range lists(t) {
		f, m := played(t, l)
		d, e := f.Doc(), f.Doc()
		for _, key := range d.Keys() {
			d.Apply([]api.Op{del(key)})
		}
		d.Apply([]api.Op{put("other", number(1))})
		check(t, f, m)
		before := e.Copy()
		f.Next(batch(1, f.Last(1)+1, put("k1", number(9)), del("a")))
		if !e.Eq(before) {
			t.Error("P7.1: Next changes a document that Doc told")
		}
	}
}

// The edges of a client's numbers and of places are too far to play to: they are decoded.

func TestLastNumberOfAClient(t *testing.T) {
	const most = 1 << 40
	m := newModel()
	m.place = most
	m.rows[1] = api.Row{Place: most, B: batch(2, most-1, add("a", 1))}
	f := checkDecode(t, m.bytes(), m)
	checkNot(t, f, m, batch(2, most+1, add("a", 1)))
	checkRow(t, f, m, batch(2, most, add("a", 1)), api.OK)
	checkNot(t, f, m, batch(2, most+1, add("a", 1)))
	checkNot(t, f, m, batch(2, most, add("a", 1)))
	checkRow(t, f, m, batch(1, 1, add("a", 1)), api.OK)
	checkDecode(t, m.bytes(), m)
}

func TestLastPlaceOfAll(t *testing.T) {
	m := newModel()
	m.place = math.MaxInt64 - 1
	f := checkDecode(t, m.bytes(), m)
	checkRow(t, f, m, batch(2, 1, add("a", 1)), api.OK)
	for client := 1; client <= 5; client++ {
		checkNot(t, f, m, batch(client, f.Last(client)+1, add("a", 1)))
	}
	checkDecode(t, m.bytes(), m)
}

// P7.1: Copy, Eq

func TestCopy(t *testing.T) {
	for _, l := range lists(t) {
		f, m := played(t, l)
		g := f.Copy()
		n := m.copy()
		check(t, g, n)
		if !g.Eq(f) || !f.Eq(g) || !f.Eq(f) {
			t.Error("P7.1: a copy is not Eq")
		}
		checkNext(t, g, n, batch(2, g.Last(2)+1, del("k1"), put("a", text("copy"))))
		check(t, f, m)
		h := g.Copy()
		checkNext(t, f, m, batch(3, f.Last(3)+1, put("k2", number(4)), put("a", text("other"))))
		checkNext(t, g, n.copy(), batch(2, g.Last(2)+1, del("a")))
		check(t, h, n)
		if g.Eq(f) || f.Eq(g) || h.Eq(g) || g.Eq(h) {
			t.Error("P7.1: folds that went their own ways are Eq")
		}
	}
}

func TestEq(t *testing.T) {
	l := lists(t)
	for i, a := range l {
		for k, b := range l {
			f, _ := played(t, a)
			g, _ := played(t, b)
			if f.Eq(g) != (i == k) {
				t.Errorf("P7.1: Eq of %d and %d: %v", i, k, f.Eq(g))
			}
		}
	}
}

// others answers models, each another one than m by one thing alone. m has a row of client 1.
func others(m *model) []*model {
	var l []*model
	for _, change := range []func(o *model){
		func(o *model) { o.place++ },
		func(o *model) { o.doc.Apply([]api.Op{put("other", number(1))}) },
		func(o *model) { o.rows[0].Place++ },
		func(o *model) { o.rows[0].B.Seq++ },
		func(o *model) { o.rows[0].B.Ops = []api.Op{del("other")} },
		func(o *model) { o.rows[0].Err = api.ErrRange },
		func(o *model) { o.rows[0] = api.Row{} },
		func(o *model) { o.rows[4] = api.Row{Place: 1, B: batch(5, 1, del("a"))} },
	} {
		o := m.copy()
		change(o)
		l = append(l, o)
	}
	return l
}

func TestEqOfOneOtherThing(t *testing.T) {
	m := newModel()
	m.place = 9
	m.rows[0] = api.Row{Place: 5, B: batch(1, 3, add("a", 1)), Err: api.ErrKind}
	f := checkDecode(t, m.bytes(), m)
	for i, o := range others(m) {
		g := checkDecode(t, o.bytes(), o)
		if f.Eq(g) || g.Eq(f) || bytes.Equal(f.Encode(), g.Encode()) {
			t.Errorf("P7.1: Eq, though one thing is another one: %d", i)
		}
		if same := checkDecode(t, o.bytes(), o); !g.Eq(same) {
			t.Errorf("P7.1: not Eq, though all is the same: %d", i)
		}
	}
}

// P7.1, P7.2: nil, and a fold that New did not make

func TestNilFold(t *testing.T) {
	var f *fold.Fold
	for _, b := range append(badBatches(), batch(1, 1, add("a", 1)), batch(5, 1, del("a"))) {
		if r, ok := f.Next(b); ok || !reflect.DeepEqual(r, api.Row{}) {
			t.Errorf("P7.2: Next(%s) of nil: %v, %v", brief(b), r, ok)
		}
	}
	for _, c := range clients() {
		if r, ok := f.Told(c); ok || !reflect.DeepEqual(r, api.Row{}) || f.Last(c) != 0 {
			t.Errorf("P7.2: Told(%d) of nil: %v, %v; Last: %d", c, r, ok, f.Last(c))
		}
	}
	if f.Place() != 0 || f.Doc() != nil || f.Copy() != nil || len(f.Encode()) != 0 {
		t.Error("P7.2: nil has something")
	}
	for _, g := range []*fold.Fold{nil, fold.New(), {}} {
		if f.Eq(g) || g.Eq(f) {
			t.Error("P7.2: nil is Eq")
		}
	}
}

func TestZeroFold(t *testing.T) {
	var f fold.Fold
	m := newModel()
	check(t, &f, m)
	check(t, f.Copy(), m)
	if !f.Eq(fold.New()) || !fold.New().Eq(&f) {
		t.Error("P7.1: the zero fold is not Eq to a new one")
	}
	checkRow(t, &f, m, batch(1, 1, put("a", number(1))), api.OK)
}

// P7.2

func TestEncodeOfKnownFolds(t *testing.T) {
	for _, c := range []struct {
		want string
		l    []api.Batch
	}{
		{"\x00\x02\x00\x00\x00\x00\x00\x00", nil},
		{"\x02\x0a\x02\x02a\x02\x06" + "\x02\x02\x0e\x02\x02\x02\x08\x02a\x06\x00" + "\x00\x00\x00\x00", []api.Batch{batch(1, 1, add("a", 3))}},
		{"\x02\x02\x00" + "\x00\x00\x00\x00" + "\x02\x02\x0c\x0a\x02\x02\x04\x02a\x00", []api.Batch{batch(5, 1, del("a"))}},
		{"\x06\x0c\x02\x02a\x04\x02x" + "\x00" + "\x02\x04\x0e\x04\x02\x02\x08\x02a\x02\x0e" + "\x00" + "\x04\x06\x0c\x08\x04\x02\x04\x02b\x00" + "\x00",
			[]api.Batch{batch(4, 1, put("a", text("x"))), batch(2, 1, add("a", 1)), batch(4, 2, del("b"))}},
	} {
		f, m := played(t, c.l)
		if got := f.Encode(); string(got) != c.want {
			t.Errorf("P7.2: Encode: %x, not %x", got, c.want)
		}
		checkDecode(t, []byte(c.want), m)
	}
}

func TestFoldsGoThereAndBack(t *testing.T) {
	for _, l := range lists(t) {
		f, m := played(t, l)
		g := checkDecode(t, f.Encode(), m)
		if !g.Eq(f) || !f.Eq(g) {
			t.Error("P7.2: Decode of Encode is not Eq")
		}
		for client := 1; client <= 5; client++ {
			b := batch(client, g.Last(client)+1, put("a", number(int64(client))), add("n", 2), del("k3"))
			checkNext(t, f, m.copy(), b)
			checkNext(t, g, m, b)
		}
		if !g.Eq(f) {
			t.Error("P7.2: behind Decode a fold goes on otherwise")
		}
	}
}

func TestDecodeOfBeginningsAndOfMore(t *testing.T) {
	for _, l := range lists(t) {
		f, _ := played(t, l)
		b := f.Encode()
		for n := range b {
			checkNoFold(t, b[:n])
		}
		for _, tail := range []string{"\x00", "\x02", "\x80", "\xff", string(b)} {
			checkNoFold(t, append(bytes.Clone(b), tail...))
		}
	}
}

// rowAt answers the bytes of a client that has come to seq, with a batch that may be.
func rowAt(client int, seq, place, err int64) string {
	return lastBytes(seq, place, string(op.Encode(batch(client, seq, add("a", 1)))), err)
}

func TestDecodeOfErrors(t *testing.T) {
	for _, err := range []int64{0, 4, 6, 7, 8} {
		b := foldBytes(1, "\x00", "\x00\x00", rowAt(3, 1, 1, err), "\x00\x00")
		m := newModel()
		m.place = 1
		m.rows[2] = api.Row{Place: 1, B: batch(3, 1, add("a", 1)), Err: api.Errno(err)}
		checkDecode(t, b, m)
	}
	for _, err := range []int64{-1, 1, 2, 3, 5, 9, 10, 11, 12, 13, 14, 256, 1 << 32, 1<<32 + 6, math.MinInt64, math.MaxInt64} {
		checkNoFold(t, foldBytes(1, "\x00", "\x00\x00", rowAt(3, 1, 1, err), "\x00\x00"))
	}
}

func TestDecodeOfPlaces(t *testing.T) {
	places := []int64{math.MinInt64, -2, -1, 0, 1, 2, 3, 4, 5, 6, 64, 1 << 40, 1<<40 + 1, math.MaxInt64 - 1, math.MaxInt64}
	for _, place := range places {
		for _, first := range places {
			for _, second := range places {
				b := foldBytes(place, "\x00", "\x00", rowAt(2, 3, first, 0), "\x00\x00", rowAt(5, 1, second, 0))
				if first < 1 || first > place || second < 1 || second > place || first == second {
					checkNoFold(t, b)
					continue
				}
				m := newModel()
				m.place = place
				m.rows[1] = api.Row{Place: first, B: batch(2, 3, add("a", 1))}
				m.rows[4] = api.Row{Place: second, B: batch(5, 1, add("a", 1))}
				checkDecode(t, b, m)
			}
		}
		if place < 0 {
			checkNoFold(t, foldBytes(place, "\x00", "\x00\x00\x00\x00\x00"))
		}
	}
}

func TestDecodeOfOnePlaceTwice(t *testing.T) {
	for first := 1; first <= 5; first++ {
		for second := 1; second < first; second++ {
			rows := slices.Repeat([]string{"\x00"}, 5)
			rows[first-1] = rowAt(first, 1, 2, 0)
			rows[second-1] = rowAt(second, 1, 2, 0)
			checkNoFold(t, foldBytes(2, "\x00", rows...))
		}
	}
}

func TestDecodeOfAnotherClientsBatch(t *testing.T) {
	for at := 1; at <= 5; at++ {
		for client := 1; client <= 5; client++ {
			rows := slices.Repeat([]string{"\x00"}, 5)
			rows[at-1] = rowAt(client, 1, 1, 0)
			b := foldBytes(1, "\x00", rows...)
			if at != client {
				checkNoFold(t, b)
				continue
			}
			m := newModel()
			m.place = 1
			m.rows[at-1] = api.Row{Place: 1, B: batch(at, 1, add("a", 1))}
			checkDecode(t, b, m)
		}
	}
}

func TestDecodeOfAnotherNumber(t *testing.T) {
	numbers := []int64{math.MinInt64, -1, 0, 1, 2, 3, 64, 1<<40 - 1, 1 << 40, 1<<40 + 1, 1<<32 + 1, math.MaxInt64}
	for _, seq := range numbers {
		for _, of := range numbers {
			own := string(op.Encode(batch(1, of, add("a", 1))))
			b := foldBytes(9, "\x00", lastBytes(seq, 4, own, 0), "\x00\x00\x00\x00")
			if own == "" || seq != of {
				checkNoFold(t, b)
				continue
			}
			m := newModel()
			m.place = 9
			m.rows[0] = api.Row{Place: 4, B: batch(1, of, add("a", 1))}
			checkDecode(t, b, m)
		}
	}
	for _, seq := range numbers {
		if seq != 0 {
			checkNoFold(t, foldBytes(9, "\x00", string(num.Put(nil, seq)), "\x00\x00\x00\x00"))
		}
	}
}

func TestDecodeOfWhatMayNotBe(t *testing.T) {
	good := "\x02\x02\x02\x08\x02a\x02"
	none := "\x00\x00\x00\x00"
	for _, c := range []struct{ doc, batch string }{
		{"", good},
		{"\x01", good},
		{"\x00\x00", good},
		{"\x02\x02a\x00", good},
		{"\x02\x02a\x02", good},
		{"\x04\x02b\x02\x02\x02a\x02\x02", good},
		{"\x82\x00\x02a\x02\x02", good},
		{strings.Repeat("\x00", 1<<20), good},
		{"\x00", ""},
		{"\x00", good + "\x00"},
		{"\x00", good[:6]},
		{"\x00", "\x02\x02\x00"},
		{"\x00", "\x02\x02\x02\x08\x00\x02"},
		{"\x00", "\x02\x02\x02\x0a\x02a\x02"},
		{"\x00", "\x82\x00\x02\x02\x08\x02a\x02"},
		{"\x00", "\x02\x02\x02\x02\x02a\x00"},
		{"\x00", strings.Repeat("\x02", 1<<20)},
	} {
		checkNoFold(t, foldBytes(1, c.doc, lastBytes(1, 1, c.batch, 0), none))
	}
	for _, s := range []string{
		"\x82\x00\x02\x00\x02\x02\x0e" + good + "\x00" + none, // numbers longer than needed
		"\x02\x82\x00\x00\x02\x02\x0e" + good + "\x00" + none,
		"\x02\x02\x00\x82\x00\x02\x0e" + good + "\x00" + none,
		"\x02\x02\x00\x02\x82\x00\x0e" + good + "\x00" + none,
		"\x02\x02\x00\x02\x02\x8e\x00" + good + "\x00" + none,
		"\x02\x02\x00\x02\x02\x0e" + good + "\x80\x00" + none,
		"\x02\x02\x00\x02\x02\x0e" + good + "\x00" + "\x80\x00\x00\x00\x00",
		"\x80\x00\x02\x00\x00" + none,
		"\x02\x01\x00\x02\x02\x0e" + good + "\x00" + none, // a length below 0
		"\x02\x02\x00\x02\x02\x0d" + good + "\x00" + none,
		"\x02\x02\x00\x02\x02\x0e" + good + "\x00" + none[:3], // a client less, a client more
		"\x02\x02\x00\x02\x02\x0e" + good + "\x00" + none + "\x00",
		"\xff\xff\xff\xff\xff\xff\xff\xff\xff\x02\x02\x00\x00" + none, // beyond an int64
	} {
		checkNoFold(t, []byte(s))
	}
	m := newModel()
	m.place = 1
	m.rows[0] = api.Row{Place: 1, B: batch(1, 1, add("a", 1))}
	checkDecode(t, []byte("\x02\x02\x00\x02\x02\x0e"+good+"\x00"+none), m)
}

// Just of a fold's bytes: whatever byte is another one, the fold that Decode tells has those bytes.
func TestDecodeOfOtherBytes(t *testing.T) {
	taken := 0
	for _, l := range lists(t)[:5] {
		f, _ := played(t, l)
		b := f.Encode()
		for i := range b {
			for c := range 256 {
				other := bytes.Clone(b)
				other[i] = byte(c)
				g, err := fold.Decode(other)
				if err != api.OK {
					checkNoFold(t, other)
					continue
				}
				taken++
				checkSound(t, g, other)
			}
		}
	}
	if taken < 300 {
		t.Errorf("P7.2: Decode takes only %d of the others", taken)
	}
}

// checkSound says whether g, which was decoded of b, has what the document asks of a fold's bytes.
func checkSound(t *testing.T, g *fold.Fold, b []byte) {
	t.Helper()
	if !bytes.Equal(g.Encode(), b) || g.Place() < 0 {
		t.Errorf("P7.2: Decode(%x): %x", b, g.Encode())
	}
	var places []int64
	for client := 1; client <= 5; client++ {
		r, ok := g.Told(client)
		if ok != (g.Last(client) != 0) {
			t.Errorf("P7.2: Decode(%x): Told(%d): %v", b, client, ok)
		}
		if !ok {
			continue
		}
		if !op.MayBatch(r.B) || r.B.Client != client || r.B.Seq != g.Last(client) || r.Place < 1 || r.Place > g.Place() || slices.Contains(places, r.Place) {
			t.Errorf("P7.2: Decode(%x): Told(%d): %v", b, client, r)
		}
		places = append(places, r.Place)
	}
}

// What a fold made of many batches is what the document's own words make of them.
func TestManyBatches(t *testing.T) {
	f, m := fold.New(), newModel()
	seen := map[api.Errno]int{}
	state := uint64(1)
	pick := func(n int) int {
		state = state*6364136223846793005 + 1442695040888963407
		return int(state >> 33 % uint64(n))
	}
	values := []api.Raw{number(0), number(1 << 62), number(math.MinInt64), text(""), text("x")}
	for i := range 20000 {
		ops := make([]api.Op, 1+pick(3))
		for i := range ops {
			key := fmt.Sprint("k", pick(58))
			v := values[pick(len(values))]
			held, _ := m.doc.Get(key)
			ops[i] = []api.Op{put(key, v), add(key, int64(pick(5)-2)), cas(key, v, held), cas(key, v, values[pick(len(values))]), put(key, number(3)), add(key, 1), del(key)}[pick(7)]
			if held.Kind == api.VNone && len(m.doc.Keys()) > 45 && pick(3) > 0 {
				ops[i] = put(key, v)
			}
		}
		client := pick(7)
		seq := f.Last(client) + 1
		if pick(10) == 0 {
			seq += int64(pick(5) - 2)
		}
		b := batch(client, seq, ops...)
		want, takes := m.next(b)
		r, ok := f.Next(b)
		if ok != takes || !reflect.DeepEqual(r, want) {
			t.Fatalf("P7.1: Next(%v): %v, %v, not %v, %v", b, r, ok, want, takes)
		}
		if ok {
			seen[r.Err]++
		}
		if i%500 == 0 {
			check(t, f, m)
			f = checkDecode(t, f.Encode(), m)
		}
	}
	check(t, f, m)
	for _, err := range []api.Errno{api.OK, api.ErrCas, api.ErrKind, api.ErrRange, api.ErrLimit} {
		if seen[err] < 50 {
			t.Errorf("P7.1: only %d batches of error %d", seen[err], err)
		}
	}
}

// P0.1, P0.3, P0.4, P0.5

func TestLongLists(t *testing.T) {
	const n = 1 << 22
	for _, unit := range []string{"\x00", "\x01", "\x02", "\x80", "\xff", "\x02\x02\x00", "\x64\x80\x80\x80\x01", "\x00\x80\x80\x80\x01"} {
		checkNoFold(t, []byte(strings.Repeat(unit, n)))
	}
	f, m := played(t, full())
	long := strings.Repeat("x", n)
	for _, o := range []api.Op{del(long), put("a", text(long)), cas("a", text(long), text(long)), add(long, 1), add("a", 1)} {
		b := batch(1, f.Last(1)+1, slices.Repeat([]api.Op{o}, 1<<16)...)
		if _, ok := f.Next(b); ok {
			t.Error("P0.1: a long batch may be")
		}
	}
	check(t, f, m)
}

func TestOperationsAreNotChangedAndNotKept(t *testing.T) {
	room := slices.Repeat([]api.Op{{Kind: 9, Key: "room"}}, 20)
	copy(room, []api.Op{put("a", number(1)), del("b"), add("c", 2), cas("c", text("x"), number(2))})
	before := slices.Clone(room)
	f, m := fold.New(), newModel()
	b := batch(1, 1, room[:4]...)
	m.next(b)
	r, _ := f.Next(b)
	if !slices.Equal(room, before) {
		t.Error("P0.3: Next changes its operations, or their spare room")
	}
	clear(room)
	check(t, f, m)
	if !slices.Equal(r.B.Ops, before[:4]) {
		t.Error("P0.3: Next answers the operations that were handed in")
	}
}

func TestBytesAreNotChangedAndNotKept(t *testing.T) {
	for _, l := range lists(t) {
		_, m := played(t, l)
		whole := append(m.bytes(), "spare room"...)
		before := bytes.Clone(whole)
		f, _ := fold.Decode(whole[:len(m.bytes())])
		if !bytes.Equal(whole, before) {
			t.Error("P0.3: Decode changes its argument")
		}
		clear(whole)
		check(t, f, m)
	}
}

func TestAnswersAreNewMemory(t *testing.T) {
	f, m := fold.New(), newModel()
	b := batch(3, 1, put("a", text("x")), add("b", 1))
	want, _ := m.next(b)
	first, _ := f.Next(b)
	second, _ := f.Told(3)
	third, _ := f.Told(3)
	own, other := f.Encode(), f.Encode()
	g := f.Copy()
	fromCopy, _ := g.Told(3)
	for _, r := range []api.Row{first, second, fromCopy} {
		clear(r.B.Ops[:cap(r.B.Ops)])
	}
	clear(own[:cap(own)])
	if !reflect.DeepEqual(third, want) || !bytes.Equal(other, m.bytes()) {
		t.Error("P0.3: two answers share memory")
	}
	check(t, f, m)
	check(t, g, m)
}

func TestTextsAreNewMemory(t *testing.T) {
	f := fold.New()
	b := batch(1, 1, put("pack", text("horse")), cas("mule", text("other"), api.Raw{}))
	ops := [][]api.Op{b.Ops}
	r, _ := f.Next(b)
	ops = append(ops, r.B.Ops)
	for _, g := range []*fold.Fold{f, f, f.Copy()} {
		r, _ := g.Told(1)
		ops = append(ops, r.B.Ops)
	}
	var texts []string
	for _, l := range ops {
		for _, o := range l {
			texts = append(texts, o.Key, o.Val.S)
		}
	}
	for i, x := range texts {
		for _, y := range texts[:i] {
			if unsafe.StringData(x) == unsafe.StringData(y) {
				t.Errorf("P0.3: two texts share memory: %q", x)
			}
		}
	}
}

// Texts can't be written into, so their memory is turned beneath them: a fold that kept them would tell others.
func TestTextsAreNotKept(t *testing.T) {
	memory := []byte("pack horse")
	s := unsafe.String(&memory[0], len(memory))
	f, m := fold.New(), newModel()
	r, _ := f.Next(batch(1, 1, put(s[:4], text(s[5:])), cas(s[5:], text(s[:4]), api.Raw{}), add(s, 1)))
	clear(memory)
	want, _ := m.next(batch(1, 1, put("pack", text("horse")), cas("horse", text("pack"), api.Raw{}), add("pack horse", 1)))
	if !reflect.DeepEqual(r, want) {
		t.Errorf("P0.3: Next answers the texts that were handed in: %v", r)
	}
	check(t, f, m)
}

func TestNilIsEmpty(t *testing.T) {
	checkNoFold(t, nil)
	checkNoFold(t, []byte{})
	f := fold.New()
	for _, ops := range [][]api.Op{nil, {}} {
		checkNot(t, f, newModel(), api.Batch{Client: 1, Seq: 1, Ops: ops})
	}
}

func TestSameAnswerAgain(t *testing.T) {
	f, m := played(t, full())
	other := fold.New()
	for range 3 {
		for _, b := range badBatches() {
			f.Next(b)
			other.Next(batch(1, other.Last(1)+1, put("k1", text("other"))))
			fold.Decode([]byte("\x02\x02"))
			f.Copy().Next(batch(1, f.Last(1)+1, del("k1")))
		}
		check(t, f, m)
		checkDecode(t, m.bytes(), m)
	}
}
