package rlog_test

import (
	"fmt"
	"math"
	"slices"
	"testing"
	"unsafe"

	"packhorse/api"
	"packhorse/rlog"
)

const (
	top  = 1 << 40
	most = 200
)

// entries answers entries one behind the other from first on, of those Terms, each with a Data of its own.
func entries(first int64, terms ...int64) []api.Entry {
	var l []api.Entry
	for i, term := range terms {
		at := first + int64(i)
		l = append(l, api.Entry{Index: at, Term: term, Kind: int(at&1) + 1, Data: fmt.Sprint("e", at, ".", term)})
	}
	return l
}

// many answers n entries from first on, all of that Term.
func many(first int64, n int, term int64) []api.Entry {
	return entries(first, slices.Repeat([]int64{term}, n)...)
}

func snap(index, term int64) api.Snap {
	return api.Snap{Index: index, Term: term, Data: fmt.Sprint("s", index, ".", term)}
}

// model is a log as the document tells it: a snapshot, and what stands at each Index behind it.
type model struct {
	snap api.Snap
	at   map[int64]api.Entry
}

func newModel(s api.Snap, l []api.Entry) *model {
	m := &model{s, map[int64]api.Entry{}}
	for _, e := range l {
		m.at[e.Index] = e
	}
	return m
}

func (m *model) last() int64 {
	i := m.snap.Index
	for m.at[i+1].Index == i+1 && len(m.at) > 0 {
		i++
	}
	return i
}

// list answers what stands there.
func (m *model) list() []api.Entry {
	var l []api.Entry
	for i, last := m.snap.Index+1, m.last(); i <= last; i++ {
		l = append(l, m.at[i])
	}
	return l
}

func (m *model) term(i int64) (int64, bool) {
	if i == m.snap.Index {
		return m.snap.Term, true
	}
	e, ok := m.at[i]
	return e.Term, ok
}

func (m *model) get(i int64, n int) []api.Entry {
	var l []api.Entry
	for _, e := range m.list() {
		if i > m.snap.Index && e.Index >= i && len(l) < n {
			l = append(l, e)
		}
	}
	return l
}

func (m *model) newer(i, term int64) bool {
	own, _ := m.term(m.last())
	if term == own {
		return i >= m.last()
	}
	return term > own
}

// rising says whether l are one behind the other, with Terms that do not fall.
func rising(l []api.Entry) bool {
	for i := range l {
		if i > 0 && (l[i].Index != l[i-1].Index+1 || l[i].Term < l[i-1].Term) {
			return false
		}
	}
	return true
}

// behind says whether l may stand behind s.
func behind(s api.Snap, l []api.Entry) bool {
	return len(l) <= most && rising(append([]api.Entry{{Index: s.Index, Term: s.Term}}, l...))
}

// put plays es on a copy, and looks at all of it then.
func (m *model) put(es []api.Entry) (int64, bool) {
	if !rising(es) || len(es) > 0 && es[0].Index > m.last()+1 {
		return 0, false
	}
	next := newModel(m.snap, m.list())
	var found int64
	for _, e := range es {
		if e.Index <= m.snap.Index {
			continue
		}
		if old, is := next.at[e.Index]; found == 0 && is && old.Term == e.Term {
			continue
		}
		if found == 0 {
			found = e.Index
			for i := range m.at {
				if i >= found {
					delete(next.at, i)
				}
			}
		}
		next.at[e.Index] = e
	}
	if !behind(next.snap, next.list()) {
		return 0, false
	}
	*m = *next
	return found, true
}

func (m *model) pack(s api.Snap) bool {
	e, ok := m.at[s.Index]
	if !ok || e.Term != s.Term {
		return false
	}
	for i := range newModel(s, m.list()).at {
		if i <= s.Index {
			delete(m.at, i)
		}
	}
	m.snap = s
	return true
}

func (m *model) set(s api.Snap) { *m = *newModel(s, nil) }

// servers answers the list whose digits s has: one to seven digits that rise.
func servers(s string) []int {
	var l []int
	for i, c := range s {
		if c < '1' || c > '7' || i > 0 && s[i-1] >= byte(c) {
			return nil
		}
		l = append(l, int(c-'0'))
	}
	return l
}

func (m *model) conf() ([]int, int64) {
	l, at := servers(m.snap.Conf), m.snap.Index
	if len(l) == 0 {
		at = 0
	}
	for _, e := range m.list() {
		if c := servers(e.Data); e.Kind == 3 && len(c) > 0 {
			l, at = c, e.Index
		}
	}
	return l, at
}

// short answers x told in few bytes.
func short(x any) string { return fmt.Sprintf("%.300s", fmt.Sprint(x)) }

// all answers all entries of a log.
func all(l *rlog.Log) []api.Entry { return l.Get(l.First(), math.MaxInt) }

// checkLog asks a log for all that stands in it.
func checkLog(t *testing.T, what string, l *rlog.Log, m *model) {
	t.Helper()
	if l == nil {
		t.Fatalf("%s: no log", what)
	}
	if got := l.Snap(); got != m.snap {
		t.Errorf("%s: Snap is %s, not %s", what, short(got), short(m.snap))
	}
	if first, last := l.First(), l.Last(); first != m.snap.Index+1 || last != m.last() {
		t.Errorf("%s: from %d to %d, not from %d to %d", what, first, last, m.snap.Index+1, m.last())
	}
	if got := all(l); !slices.Equal(got, m.list()) {
		t.Errorf("%s: the entries are %s, not %s", what, short(got), short(m.list()))
	}
}

// checkAsked asks a log about places around it.
func checkAsked(t *testing.T, what string, l *rlog.Log, m *model, terms int64) {
	t.Helper()
	for i := m.snap.Index - 2; i <= m.last()+2; i++ {
		term, ok := l.Term(i)
		if want, is := m.term(i); term != want || ok != is {
			t.Errorf("P13.1: %s: Term(%d) is %d, %v, not %d, %v", what, i, term, ok, want, is)
		}
		for n := -1; n <= len(m.at)+1; n++ {
			if got := l.Get(i, n); !slices.Equal(got, m.get(i, n)) {
				t.Errorf("P13.1: %s: Get(%d, %d) is %v, not %v", what, i, n, got, m.get(i, n))
			}
		}
		for x := int64(-1); x <= terms+1; x++ {
			own, is := m.term(i)
			if got := l.Fits(i, x); got != (is && own == x) {
				t.Errorf("P13.1: %s: Fits(%d, %d) is %v", what, i, x, got)
			}
			if got := l.Newer(i, x); got != m.newer(i, x) {
				t.Errorf("P13.2: %s: Newer(%d, %d) is %v", what, i, x, got)
			}
		}
	}
}

// checkPut puts into both, and holds all of the one against the other.
func checkPut(t *testing.T, l *rlog.Log, m *model, es []api.Entry) {
	t.Helper()
	before := m.list()
	i, ok := l.Put(es)
	want, may := m.put(es)
	what := fmt.Sprintf("P13.2: Put(%s) behind %s of %s", short(es), short(m.snap), short(before))
	if i != want || ok != may {
		t.Errorf("%s is %d, %v, not %d, %v", what, i, ok, want, may)
	}
	checkLog(t, what, l, m)
}

func checkPack(t *testing.T, l *rlog.Log, m *model, s api.Snap) {
	t.Helper()
	what := fmt.Sprintf("P13.3: Pack(%s) of %s behind %s", short(s), short(m.list()), short(m.snap))
	if got, want := l.Pack(s), m.pack(s); got != want {
		t.Errorf("%s is %v", what, got)
	}
	checkLog(t, what, l, m)
}

func checkConf(t *testing.T, l *rlog.Log, want []int, at int64) {
	t.Helper()
	if got, i := l.Conf(); !slices.Equal(got, want) || i != at {
		t.Errorf("P13.3: Conf of %s and %s is %v, %d, not %v, %d", short(l.Snap()), short(all(l)), got, i, want, at)
	}
}

// newBoth answers a log and its model.
func newBoth(t *testing.T, s api.Snap, l []api.Entry) (*rlog.Log, *model) {
	t.Helper()
	got, m := rlog.New(s, l), newModel(s, l)
	checkLog(t, fmt.Sprintf("P13.1: New(%s, %s)", short(s), short(l)), got, m)
	return got, m
}

// eachTerms asks for all lists of up to n Terms from low to high.
func eachTerms(n int, low, high int64, ask func(terms []int64)) {
	var grow func(l []int64)
	grow = func(l []int64) {
		ask(slices.Clone(l))
		for x := low; x <= high && len(l) < n; x++ {
			grow(append(l, x))
		}
	}
	grow(nil)
}

// P13.1: New

func TestNewOfAllShortLists(t *testing.T) {
	for index := int64(0); index < 3; index++ {
		for term := int64(0); term < 3; term++ {
			for first := int64(-1); first < 5; first++ {
				eachTerms(3, -1, 3, func(terms []int64) {
					s, l := snap(index, term), entries(first, terms...)
					got := rlog.New(s, l)
					if (got != nil) != behind(s, l) {
						t.Errorf("P13.1: New(%v, %v): a log: %v", s, l, got != nil)
					}
					if got != nil {
						checkLog(t, "P13.1", got, newModel(s, l))
					}
				})
			}
		}
	}
}

func TestNewOfGaps(t *testing.T) {
	good := entries(5, 1, 1, 1, 1)
	for n := range good {
		for _, move := range []int64{-5, -2, -1, 1, 2, 100, math.MaxInt64 - 8, math.MinInt64} {
			l := slices.Clone(good)
			l[n].Index += move
			if rlog.New(snap(4, 1), l) != nil {
				t.Errorf("P13.1: New takes entries of the Indexes %v", l)
			}
		}
		if l := slices.Delete(slices.Clone(good), n, n+1); n < 3 && rlog.New(snap(4, 1), l) != nil {
			t.Errorf("P13.1: New takes a gap: %v", l)
		}
		if rlog.New(snap(4, 1), slices.Insert(slices.Clone(good), n, good[n])) != nil {
			t.Errorf("P13.1: New takes the entry %d twice", good[n].Index)
		}
	}
	slices.Reverse(good)
	if rlog.New(snap(4, 1), good) != nil {
		t.Errorf("P13.1: New takes entries that fall: %v", good)
	}
}

func TestNewOfASnapshotsNumbers(t *testing.T) {
	for _, n := range []int64{0, 1, 2, 1 << 31, 1 << 32, top - 1, top} {
		newBoth(t, snap(n, 7), nil)
		newBoth(t, snap(7, n), nil)
		newBoth(t, snap(n, n), nil)
		newBoth(t, snap(n, n), entries(n+1, n, n, n+1))
	}
	for _, n := range []int64{-1, -2, top + 1, top + 2, -top, math.MaxInt64, math.MinInt64, math.MaxInt64 - 1} {
		for _, s := range []api.Snap{snap(n, 7), snap(7, n), snap(n, n)} {
			if rlog.New(s, nil) != nil {
				t.Errorf("P13.1: New takes the snapshot %v", s)
			}
		}
		if rlog.New(snap(n, n), []api.Entry{{Index: n + 1, Term: n}}) != nil {
			t.Errorf("P13.1: New takes an entry behind the snapshot's number %d", n)
		}
	}
}

func TestNewOfMany(t *testing.T) {
	for _, s := range []api.Snap{{}, snap(7, 3), snap(top, top)} {
		for _, n := range []int{0, 1, most - 1, most} {
			newBoth(t, s, many(s.Index+1, n, s.Term))
		}
		for _, n := range []int{most + 1, most + 2, 2 * most, 1 << 16} {
			if rlog.New(s, many(s.Index+1, n, s.Term)) != nil {
				t.Errorf("P13.1: New takes %d entries", n)
			}
		}
	}
}

// The chapter asks nothing of Kind, Data and Conf.
func TestNewTakesAllKinds(t *testing.T) {
	l := []api.Entry{{Index: 3, Term: 1, Kind: -1}, {Index: 4, Term: 1, Kind: 99, Data: string(make([]byte, 1<<16))}, {Index: 5, Term: math.MaxInt64}}
	newBoth(t, api.Snap{Index: 2, Term: 1, Conf: "x", Data: "\xff"}, l)
}

// P13.1: what a log answers

func TestAsked(t *testing.T) {
	for _, s := range []api.Snap{{}, snap(0, 2), snap(4, 0), snap(4, 2)} {
		eachTerms(4, s.Term, s.Term+2, func(terms []int64) {
			if l := entries(s.Index+1, terms...); slices.IsSorted(terms) {
				got, m := newBoth(t, s, l)
				checkAsked(t, fmt.Sprint(s, l), got, m, s.Term+2)
			}
		})
	}
}

func TestAskedAtTheEdges(t *testing.T) {
	numbers := []int64{math.MinInt64, math.MinInt64 + 1, -top, -1, 0, top + most, top + 1<<32, math.MaxInt64 - 1, math.MaxInt64}
	for _, s := range []api.Snap{snap(9, 2), snap(top-most-1, 2)} {
		l, _ := newBoth(t, s, many(s.Index+1, most, 3))
		for _, i := range numbers {
			if term, ok := l.Term(i); term != 0 || ok {
				t.Errorf("P13.1: Term(%d) is %d, %v", i, term, ok)
			}
			if got := l.Get(i, math.MaxInt); len(got) != 0 {
				t.Errorf("P13.1: Get(%d) has %d entries", i, len(got))
			}
			for _, term := range append(numbers, 2, 3) {
				if l.Fits(i, term) {
					t.Errorf("P13.1: Fits(%d, %d)", i, term)
				}
				if want := term > 3 || term == 3 && i >= s.Index+most; l.Newer(i, term) != want {
					t.Errorf("P13.2: Newer(%d, %d) is not %v", i, term, want)
				}
			}
		}
		for _, n := range []int{math.MinInt, math.MinInt + 1, -1, 0} {
			if got := l.Get(s.Index+1, n); len(got) != 0 {
				t.Errorf("P13.1: Get of %d has %d entries", n, len(got))
			}
		}
		for _, n := range []int{most, most + 1, 1 << 32, math.MaxInt} {
			if got := l.Get(s.Index+2, n); !slices.Equal(got, many(s.Index+2, most-1, 3)) {
				t.Errorf("P13.1: Get of %d is %s", n, short(got))
			}
		}
	}
}

// P13.2: Put

// eachLog asks for all small logs behind a snapshot of Index 2.
func eachLog(ask func(s api.Snap, l []api.Entry)) {
	for term := int64(0); term < 3; term++ {
		eachTerms(3, term, 2, func(terms []int64) {
			if slices.IsSorted(terms) {
				ask(snap(2, term), entries(3, terms...))
			}
		})
	}
}

func TestPutOfAllShortLists(t *testing.T) {
	eachLog(func(s api.Snap, l []api.Entry) {
		for first := int64(0); first < 8; first++ {
			eachTerms(4, 0, 3, func(terms []int64) {
				es := entries(first, terms...)
				for i := range es {
					es[i].Data += "+"
				}
				got, m := rlog.New(s, l), newModel(s, l)
				checkPut(t, got, m, es)
			})
		}
	})
}

func TestPutOfGaps(t *testing.T) {
	s, own := snap(2, 1), entries(3, 1, 2, 2)
	for first := int64(1); first < 8; first++ {
		good := entries(first, 2, 2, 2, 2)
		for n := range good {
			for _, move := range []int64{-9, -1, 1, 2, 100, math.MaxInt64 - 12, math.MinInt64} {
				es := slices.Clone(good)
				es[n].Index += move
				l, m := newBoth(t, s, own)
				checkPut(t, l, m, es)
			}
			l, m := newBoth(t, s, own)
			checkPut(t, l, m, slices.Insert(slices.Clone(good), n, good[n]))
			checkPut(t, l, m, slices.Delete(slices.Clone(good), n, n+1))
		}
	}
}

// What does not rise may not be, even where all of it would be passed over.
func TestPutOfWhatWouldBePassedOver(t *testing.T) {
	s, own := snap(5, 2), entries(6, 2, 3)
	for _, es := range [][]api.Entry{entries(1, 2, 1), entries(4, 3, 2), entries(5, 3, 2), append(entries(1, 1), entries(3, 1)...), append(entries(6, 2), entries(6, 2)...)} {
		l, m := newBoth(t, s, own)
		if i, ok := l.Put(es); i != 0 || ok {
			t.Errorf("P13.2: Put(%v) is %d, %v", es, i, ok)
		}
		checkLog(t, "P13.2: behind a refused Put", l, m)
	}
	for _, es := range [][]api.Entry{nil, {}, entries(1, 9), entries(-3, -2, -1, 0, 9, 9, 9), entries(5, 1), entries(5, 99), entries(6, 2), entries(7, 3), entries(5, 2, 2, 3), entries(math.MinInt64, math.MinInt64, 0, math.MaxInt64)} {
		l, m := newBoth(t, s, own)
		if i, ok := l.Put(es); i != 0 || !ok {
			t.Errorf("P13.2: Put(%v) is %d, %v", es, i, ok)
		}
		checkLog(t, "P13.2: behind Put of what is there", l, m)
	}
}

// What is there stays, whatever else the entry of the same Index and Term has.
func TestPutKeepsWhatIsThere(t *testing.T) {
	l, _ := newBoth(t, snap(2, 1), entries(3, 1, 2))
	es := []api.Entry{{Index: 3, Term: 1, Kind: 3, Data: "other"}, {Index: 4, Term: 2, Kind: 3, Data: "other"}, {Index: 5, Term: 2, Kind: 3, Data: "new"}}
	if i, ok := l.Put(es[:2]); i != 0 || !ok {
		t.Errorf("P13.2: Put of what is there is %d, %v", i, ok)
	}
	if i, ok := l.Put(es); i != 5 || !ok {
		t.Errorf("P13.2: Put of what is there and one more is %d, %v", i, ok)
	}
	if got, want := all(l), append(entries(3, 1, 2), es[2]); !slices.Equal(got, want) {
		t.Errorf("P13.2: %v, not %v", got, want)
	}
	// Behind another one those that were there come anew.
	es[0].Term, es[1].Term = 2, 2
	if i, ok := l.Put(es); i != 3 || !ok || !slices.Equal(all(l), es) {
		t.Errorf("P13.2: Put of other ones is %d, %v: %v", i, ok, all(l))
	}
}

func TestPutOfATermBelowTheOneAhead(t *testing.T) {
	for _, x := range []struct {
		es   []api.Entry
		i    int64
		want bool
	}{
		{entries(3, 3), 0, false}, {entries(3, 4), 0, true}, {entries(3, 5), 3, true},
		{entries(4, 3), 0, false}, {entries(4, 4), 4, true}, {entries(4, 5), 0, true},
		{entries(5, 4), 0, false}, {entries(5, 5), 0, true}, {entries(5, 6), 5, true},
		{entries(6, 4), 0, false}, {entries(6, 5), 6, true},
		{entries(2, 3, 3), 0, false}, {entries(2, 9, 9), 3, true}, {entries(2, 3, 4), 0, true},
		{entries(1, 1, 2, 3), 0, false}, {entries(1, 0, 0, 4, 4), 4, true},
		{entries(3, 4, 4), 4, true}, {entries(3, 4, 5, 5, 4), 0, false},
	} {
		l, m := newBoth(t, snap(2, 4), entries(3, 4, 5, 5))
		if i, ok := l.Put(x.es); i != x.i || ok != x.want {
			t.Errorf("P13.2: Put(%v) is %d, %v, not %d, %v", x.es, i, ok, x.i, x.want)
		}
		m.put(x.es)
		checkLog(t, "P13.2", l, m)
	}
}

func TestPutOfMany(t *testing.T) {
	for have := 0; have <= most; have += 40 {
		for from := -3; from <= have; from += 1 + have/8 {
			for _, n := range []int{most - 1, most, most + 1, most - from - 1, most - from, most - from + 1} {
				l, m := newBoth(t, snap(7, 2), many(8, have, 2))
				checkPut(t, l, m, many(int64(8+from), n, 3))
			}
		}
	}
}

// Those that are passed over do not count: the log has 200 then, however many came.
func TestPutOfManyThatArePassedOver(t *testing.T) {
	const index = 100000
	for _, n := range []int{index, index + 1, index + most, index + most + 1} {
		l, m := newBoth(t, snap(index, 1), many(index+1, most, 1))
		checkPut(t, l, m, many(1, n, 1))
		l, m = newBoth(t, snap(index, 1), nil)
		checkPut(t, l, m, many(1, n, 1))
	}
}

func TestPutIntoAFullLog(t *testing.T) {
	l, m := newBoth(t, snap(7, 2), many(8, most, 2))
	checkPut(t, l, m, entries(8+most, 2))
	checkPut(t, l, m, entries(7+most, 2, 2))
	checkPut(t, l, m, entries(7+most, 3))
	checkPut(t, l, m, entries(7+most, 3, 3))
	checkPut(t, l, m, entries(6+most, 4, 4))
	checkPut(t, l, m, entries(6+most, 5, 5, 5))
	checkPut(t, l, m, many(8, most, 6))
	checkPut(t, l, m, many(8, most+1, 7))
	checkPack(t, l, m, snap(8, 6))
	checkPut(t, l, m, entries(8+most, 6))
	checkPut(t, l, m, entries(9+most, 6))
}

// As the model: many things one behind the other.

// picker picks numbers below n, always the same ones in the same order.
type picker uint32

func (p *picker) pick(n int) int {
	*p = *p*1664525 + 1013904223
	return int(*p>>8) % n
}

// someEntries answers entries near the log's end.
func (p *picker) someEntries(m *model, n int) []api.Entry {
	first := m.last() + 1 - int64(p.pick(5)*p.pick(3)) + int64(p.pick(12)/11)
	terms := make([]int64, p.pick(n))
	term, _ := m.term(first - 1)
	for i := range terms {
		term += int64(p.pick(5) / 4)
		terms[i] = term
	}
	l := entries(first, terms...)
	for i := range l {
		l[i].Kind = p.pick(4)
		l[i].Data = []string{"1", "123", "2467", "21", "", "8", l[i].Data}[p.pick(7)]
	}
	if len(l) > 0 && p.pick(15) == 0 {
		l[p.pick(len(l))].Term += int64(p.pick(5) - 2)
	}
	if len(l) > 0 && p.pick(15) == 0 {
		l[p.pick(len(l))].Index += int64(p.pick(5) - 2)
	}
	return l
}

func (p *picker) someSnap(m *model) api.Snap {
	at := m.snap.Index - 1 + int64(p.pick(len(m.at)+3))
	term, _ := m.term(at)
	return api.Snap{Index: max(at, 0), Term: term + int64(p.pick(6)/5), Conf: []string{"", "1", "357", "12345678"}[p.pick(4)], Data: fmt.Sprint("d", at)}
}

// step does one thing to both.
func (p *picker) step(t *testing.T, l *rlog.Log, m *model, n int) {
	t.Helper()
	switch x := p.pick(40); {
	case x < 36:
		checkPut(t, l, m, p.someEntries(m, n))
	case x < 39:
		checkPack(t, l, m, p.someSnap(m))
	default:
		s := p.someSnap(m)
		l.Set(s)
		m.set(s)
		checkLog(t, fmt.Sprintf("P13.3: Set(%v)", s), l, m)
	}
	want, at := m.conf()
	checkConf(t, l, want, at)
}

func TestAsTheModel(t *testing.T) {
	p := picker(1)
	for range 200 {
		l, m := newBoth(t, snap(int64(p.pick(9)), int64(p.pick(3))), nil)
		for range 80 {
			p.step(t, l, m, 6)
			if t.Failed() {
				return
			}
		}
		checkAsked(t, "as the model", l, m, 3)
	}
}

func TestAsTheModelWithMuch(t *testing.T) {
	p := picker(2)
	for range 10 {
		l, m := newBoth(t, snap(top, 5), nil)
		for range 80 {
			p.step(t, l, m, 60)
			if t.Failed() {
				return
			}
		}
	}
}

// P13.2: Newer

func TestNewer(t *testing.T) {
	for _, x := range []struct {
		l       *rlog.Log
		i, term int64
		want    bool
	}{
		{rlog.New(api.Snap{}, nil), 0, 0, true}, {rlog.New(api.Snap{}, nil), -1, 0, false}, {rlog.New(api.Snap{}, nil), 0, -1, false}, {rlog.New(api.Snap{}, nil), -1, 1, true},
		{rlog.New(snap(4, 2), nil), 4, 2, true}, {rlog.New(snap(4, 2), nil), 3, 2, false}, {rlog.New(snap(4, 2), nil), 0, 3, true}, {rlog.New(snap(4, 2), nil), 99, 1, false},
		{rlog.New(snap(4, 2), entries(5, 2, 6)), 6, 6, true}, {rlog.New(snap(4, 2), entries(5, 2, 6)), 7, 6, true}, {rlog.New(snap(4, 2), entries(5, 2, 6)), 5, 6, false},
		{rlog.New(snap(4, 2), entries(5, 2, 6)), 99, 5, false}, {rlog.New(snap(4, 2), entries(5, 2, 6)), 1, 7, true}, {rlog.New(snap(4, 2), entries(5, 2, 6)), 5, 2, false},
	} {
		if got := x.l.Newer(x.i, x.term); got != x.want {
			t.Errorf("P13.2: Newer(%d, %d) of %v is %v", x.i, x.term, all(x.l), got)
		}
	}
}

// P13.3: Pack and Set

func TestPackOfAll(t *testing.T) {
	eachLog(func(s api.Snap, own []api.Entry) {
		for index := int64(-1); index < 9; index++ {
			for term := int64(-1); term < 5; term++ {
				l, m := rlog.New(s, own), newModel(s, own)
				packed := snap(index, term)
				packed.Conf = "27"
				checkPack(t, l, m, packed)
				checkAsked(t, "behind Pack", l, m, 3)
				checkPut(t, l, m, entries(m.last()+1, 7, 8))
			}
		}
	})
}

func TestPackOfMany(t *testing.T) {
	for _, index := range []int64{8, 9, 107, 206, 207} {
		l, m := newBoth(t, snap(7, 2), many(8, most, 3))
		for _, at := range []int64{math.MinInt64, -1, 0, 7, 208, 1 << 32, math.MaxInt64} {
			checkPack(t, l, m, snap(at, 3))
			checkPack(t, l, m, snap(at, 2))
		}
		for _, term := range []int64{math.MinInt64, 0, 2, 4, math.MaxInt64} {
			checkPack(t, l, m, snap(index, term))
		}
		checkPack(t, l, m, snap(index, 3))
		if !l.Fits(index, 3) || l.First() != index+1 || l.Last() != 207 {
			t.Errorf("P13.3: Pack of %d: from %d to %d", index, l.First(), l.Last())
		}
		// What is packed can be packed once only.
		checkPack(t, l, m, snap(index, 3))
		checkPut(t, l, m, many(208, int(index-7), 3))
		checkPut(t, l, m, entries(208+index-7, 3))
	}
}

// The snapshot's own Index lies ahead of First.
func TestPackOfTheSnapshot(t *testing.T) {
	l, m := newBoth(t, snap(4, 2), entries(5, 2))
	if l.Pack(api.Snap{Index: 4, Term: 2, Data: "other"}) {
		t.Error("P13.3: Pack takes the snapshot's own Index")
	}
	checkLog(t, "P13.3: behind a refused Pack", l, m)
}

func TestSet(t *testing.T) {
	for _, s := range []api.Snap{{}, {Index: 3, Term: 1, Conf: "12", Data: "d"}, {Index: 5, Term: 2}, {Index: 6, Term: 9, Data: "x"}, {Index: top, Term: top}} {
		for _, own := range [][]api.Entry{nil, entries(5, 2), entries(5, 2, 2, 4)} {
			l, m := newBoth(t, snap(4, 2), own)
			l.Set(s)
			m.set(s)
			checkLog(t, fmt.Sprintf("P13.3: Set(%v)", s), l, m)
			checkAsked(t, "behind Set", l, m, 3)
			want, at := m.conf()
			checkConf(t, l, want, at)
			checkPut(t, l, m, entries(s.Index+1, s.Term, s.Term))
			checkPut(t, l, m, entries(s.Index+4, s.Term))
		}
	}
}

// The chapter asks nothing of what is set: no number wraps (P0.6).
func TestSetOfAnyNumbers(t *testing.T) {
	for _, index := range []int64{math.MinInt64, math.MinInt64 + 1, -201, -1, top + 1, math.MaxInt64 - 201, math.MaxInt64 - 2} {
		for _, term := range []int64{math.MinInt64, -1, top + 1, math.MaxInt64} {
			l := rlog.New(snap(4, 2), entries(5, 2))
			s := snap(index, term)
			l.Set(s)
			m := newModel(s, nil)
			checkLog(t, "P13.3: Set", l, m)
			if i, ok := l.Put(entries(index+1, term, math.MaxInt64)); i != index+1 || !ok {
				t.Errorf("P0.6: Put behind %v is %d, %v", s, i, ok)
			}
			if !l.Fits(index, term) || !l.Fits(index+1, term) || !l.Fits(index+2, math.MaxInt64) || l.Last() != index+2 {
				t.Errorf("P0.6: behind %v: %v", s, all(l))
			}
			for _, i := range []int64{math.MinInt64, math.MaxInt64} {
				if i < index || i > index+2 {
					if _, ok := l.Term(i); ok || len(l.Get(i, 9)) > 0 || l.Pack(snap(i, term)) {
						t.Errorf("P0.6: behind %v: an entry %d", s, i)
					}
				}
			}
		}
	}
}

func TestNothingBehindTheGreatestNumber(t *testing.T) {
	l := rlog.New(api.Snap{}, nil)
	l.Set(snap(math.MaxInt64, 1))
	if l.First() != math.MaxInt64 || l.Last() != math.MaxInt64 || len(all(l)) != 0 {
		t.Errorf("P0.6: from %d to %d: %v", l.First(), l.Last(), all(l))
	}
	for _, es := range [][]api.Entry{entries(math.MaxInt64, 1, 1), entries(math.MaxInt64, 1, 1, 1)} {
		if i, ok := l.Put(es); i != 0 || ok {
			t.Errorf("P0.6: Put of Indexes that wrap is %d, %v", i, ok)
		}
	}
	for _, first := range []int64{math.MinInt64, 0, 5, math.MaxInt64} {
		if i, ok := l.Put(entries(first, 1)); i != 0 || !ok {
			t.Errorf("P13.2: Put of what the snapshot stands for is %d, %v", i, ok)
		}
	}
	l.Set(snap(math.MaxInt64-1, 1))
	if i, ok := l.Put(entries(math.MaxInt64, 1, 1)); i != 0 || ok || l.Last() != math.MaxInt64-1 {
		t.Errorf("P0.6: Put of Indexes that wrap is %d, %v", i, ok)
	}
	if i, ok := l.Put(entries(math.MaxInt64, 1)); i != math.MaxInt64 || !ok || l.Last() != math.MaxInt64 || len(all(l)) != 1 {
		t.Errorf("P13.2: Put of the greatest Index is %d, %v: %v", i, ok, all(l))
	}
}

// P13.3: Conf

// confs answers entries of kind EConf with those Datas.
func confs(first int64, datas ...string) []api.Entry {
	var l []api.Entry
	for i, s := range datas {
		l = append(l, api.Entry{Index: first + int64(i), Term: 1, Kind: api.EConf, Data: s})
	}
	return l
}

func TestConf(t *testing.T) {
	for _, x := range []struct {
		conf string
		l    []api.Entry
		want []int
		at   int64
	}{
		{"", nil, nil, 0}, {"123", nil, []int{1, 2, 3}, 4}, {"7", nil, []int{7}, 4}, {"1234567", nil, []int{1, 2, 3, 4, 5, 6, 7}, 4},
		{"8", nil, nil, 0}, {"0", nil, nil, 0}, {"21", nil, nil, 0}, {"11", nil, nil, 0}, {"12 ", nil, nil, 0}, {"1,2", nil, nil, 0},
		{"123", entries(5, 1, 1), []int{1, 2, 3}, 4}, {"", entries(5, 1, 1), nil, 0},
		{"123", confs(5, "12"), []int{1, 2}, 5}, {"", confs(5, "12"), []int{1, 2}, 5}, {"8", confs(5, "12"), []int{1, 2}, 5},
		{"123", confs(5, "12", "3", "345"), []int{3, 4, 5}, 7}, {"", confs(5, "12", "", "345x"), []int{1, 2}, 5},
		{"6", confs(5, "", "21", "9"), []int{6}, 4}, {"", confs(5, "", "21", "9"), nil, 0}, {"x", confs(5, "", "21", "9"), nil, 0},
		{"67", append(confs(5, "2", "12"), entries(7, 1, 1, 1)...), []int{1, 2}, 6},
	} {
		checkConf(t, rlog.New(api.Snap{Index: 4, Term: 1, Conf: x.conf}, x.l), x.want, x.at)
	}
}

func TestConfOfOtherKinds(t *testing.T) {
	for _, kind := range []int{-1, 0, api.ENoop, api.EBatch, 4, 259, 1<<32 + 3, math.MinInt} {
		l := confs(5, "12", "34")
		l[1].Kind = kind
		checkConf(t, rlog.New(api.Snap{Index: 4, Term: 1, Conf: "567"}, l), []int{1, 2}, 5)
	}
}

// A snapshot at Index 0 has servers too.
func TestConfAtZero(t *testing.T) {
	checkConf(t, rlog.New(api.Snap{Conf: "123"}, nil), []int{1, 2, 3}, 0)
}

func TestConfGoesWithItsEntry(t *testing.T) {
	l := rlog.New(api.Snap{Conf: "1"}, confs(1, "12", "123", "23"))
	l.Put(entries(3, 2))
	checkConf(t, l, []int{1, 2, 3}, 2)
	l.Put([]api.Entry{{Index: 4, Term: 2, Kind: api.EConf, Data: "67"}})
	checkConf(t, l, []int{6, 7}, 4)
	l.Put(entries(2, 3))
	checkConf(t, l, []int{1, 2}, 1)
	l.Put(entries(1, 4))
	checkConf(t, l, []int{1}, 0)
	l.Put([]api.Entry{{Index: 2, Term: 4, Kind: api.EConf, Data: "45"}, {Index: 3, Term: 4, Kind: api.ENoop}})
	l.Pack(api.Snap{Index: 2, Term: 4, Conf: "456"})
	checkConf(t, l, []int{4, 5, 6}, 2)
	l.Pack(api.Snap{Index: 3, Term: 4, Conf: "none"})
	checkConf(t, l, nil, 0)
	l.Set(api.Snap{Index: 1, Term: 1, Conf: "3"})
	checkConf(t, l, []int{3}, 1)
}

// P0.1, P0.3, P0.4, P0.5

func TestNil(t *testing.T) {
	var l *rlog.Log
	l.Set(snap(4, 2))
	for _, n := range []int64{math.MinInt64, -1, 0, 1, 4, math.MaxInt64} {
		if term, ok := l.Term(n); term != 0 || ok {
			t.Errorf("P13.3: Term(%d) of a nil *Log is %d, %v", n, term, ok)
		}
		if len(l.Get(n, 9)) != 0 || l.Fits(n, 0) || l.Newer(n, math.MaxInt64) || l.Pack(snap(n, 0)) {
			t.Errorf("P13.3: a nil *Log answers at %d", n)
		}
	}
	for _, es := range [][]api.Entry{nil, {}, entries(1, 1), entries(0, 0)} {
		if i, ok := l.Put(es); i != 0 || ok {
			t.Errorf("P13.3: Put(%v) of a nil *Log is %d, %v", es, i, ok)
		}
	}
	if l.First() != 0 || l.Last() != 0 || l.Snap() != (api.Snap{}) {
		t.Errorf("P13.3: a nil *Log has %d, %d, %v", l.First(), l.Last(), l.Snap())
	}
	if c, at := l.Conf(); len(c) != 0 || at != 0 {
		t.Errorf("P13.3: Conf of a nil *Log is %v, %d", c, at)
	}
}

// A Log that New has not made is one without anything.
func TestLogOfItsOwn(t *testing.T) {
	var l rlog.Log
	m := newModel(api.Snap{}, nil)
	checkLog(t, "P0.1: a zero Log", &l, m)
	checkAsked(t, "a zero Log", &l, m, 2)
	checkPut(t, &l, m, entries(1, 1, 2))
	checkPack(t, &l, m, snap(1, 1))
}

func TestNilIsEmpty(t *testing.T) {
	for _, s := range []api.Snap{{}, snap(4, 2), snap(-1, 0)} {
		a, b := rlog.New(s, nil), rlog.New(s, []api.Entry{})
		if (a == nil) != (b == nil) || a.First() != b.First() || a.Last() != b.Last() || a.Snap() != b.Snap() {
			t.Errorf("P0.4: New(%v): a nil list is not an empty one", s)
		}
	}
	l, m := newBoth(t, snap(4, 2), entries(5, 2))
	checkPut(t, l, m, nil)
	checkPut(t, l, m, []api.Entry{})
}

func TestLongLists(t *testing.T) {
	l, m := newBoth(t, snap(4, 2), entries(5, 2))
	long := many(5, 1<<18, 2)
	checkPut(t, l, m, long)
	checkPut(t, l, m, make([]api.Entry, 1<<20))
	if rlog.New(snap(4, 2), long) != nil || rlog.New(api.Snap{}, make([]api.Entry, 1<<20)) != nil {
		t.Error("P0.1: New takes a long list")
	}
	m = newModel(api.Snap{Index: 1, Term: 1, Conf: string(make([]byte, 1<<24)), Data: string(make([]byte, 1<<24))}, nil)
	l.Set(m.snap)
	checkLog(t, "P0.1: a long snapshot", l, m)
	checkConf(t, l, nil, 0)
}

// loan answers a text whose bytes the test can write into.
func loan(s string) (string, []byte) {
	b := []byte(s)
	return unsafe.String(unsafe.SliceData(b), len(b)), b
}

// loaned answers entries with room behind them whose Datas the test can write into, and those.
func loaned(l []api.Entry) ([]api.Entry, [][]byte) {
	room := make([]api.Entry, len(l), len(l)+8)
	var own [][]byte
	for i, e := range l {
		data, b := loan(e.Data)
		e.Data = data
		room[i] = e
		own = append(own, b)
	}
	return room, own
}

// overwrite writes into what was handed in.
func overwrite(l []api.Entry, own [][]byte) {
	for _, b := range own {
		for i := range b {
			b[i] = '!'
		}
	}
	spoil(l)
}

// spoil writes into a list and all of its room.
func spoil(l []api.Entry) {
	whole := l[:cap(l)]
	for i := range whole {
		whole[i] = api.Entry{Index: -5, Term: 77, Data: "spoilt"}
	}
}

func TestArgumentsAreNotChanged(t *testing.T) {
	for _, first := range []int64{2, 4, 5, 6, 7, 8, 9} {
		room, _ := loaned(entries(first, 3, 3, 3))
		whole := room[:cap(room)]
		for i := len(room); i < len(whole); i++ {
			whole[i] = api.Entry{Index: int64(i), Data: "room"}
		}
		given := slices.Clone(whole)
		l := rlog.New(snap(4, 2), entries(5, 2, 3))
		l.Put(room)
		rlog.New(snap(first-1, 1), room).Put(entries(first+1, 9, 9, 9, 9))
		packed := rlog.New(snap(first-1, 1), room)
		packed.Pack(snap(first+1, 3))
		packed.Put(entries(first+2, 5, 5))
		if !slices.Equal(whole, given) {
			t.Errorf("P0.3: a list that was handed in is changed: %v, not %v", whole, given)
		}
	}
}

func TestArgumentsAreNotKept(t *testing.T) {
	room, own := loaned(entries(5, 2, 3, 3))
	conf, ownConf := loan("123")
	data, ownData := loan("pack horse")
	s := api.Snap{Index: 4, Term: 2, Conf: conf, Data: data}
	want := api.Snap{Index: 4, Term: 2, Conf: "123", Data: "pack horse"}
	l := rlog.New(s, room)
	m := newModel(want, entries(5, 2, 3, 3))
	other := rlog.New(snap(1, 1), nil)
	other.Set(s)
	more, ownMore := loaned(entries(6, 3, 4, 4))
	l.Put(more)
	m.put(entries(6, 3, 4, 4))
	overwrite(room, own)
	overwrite(more, ownMore)
	copy(ownConf, "777")
	copy(ownData, "donkeydonk")
	checkLog(t, "P0.3: behind writing into what New and Put were given", l, m)
	checkConf(t, l, []int{1, 2, 3}, 4)
	checkLog(t, "P0.3: behind writing into what Set was given", other, newModel(want, nil))
	data, ownData = loan("donkey")
	conf, ownConf = loan("24")
	l.Pack(api.Snap{Index: 5, Term: 2, Conf: conf, Data: data})
	m.pack(api.Snap{Index: 5, Term: 2, Conf: "24", Data: "donkey"})
	copy(ownConf, "77")
	copy(ownData, "monkey")
	checkLog(t, "P0.3: behind writing into what Pack was given", l, m)
}

func shares(a, b string) bool { return len(a) > 0 && unsafe.StringData(a) == unsafe.StringData(b) }

func TestAnswersAreNewMemory(t *testing.T) {
	l, m := newBoth(t, api.Snap{Index: 4, Term: 2, Conf: "123", Data: "pack horse"}, nil)
	for n := range 30 {
		checkPut(t, l, m, entries(int64(5+n), 2, 2))
		for i := range 3 {
			a, b := l.Get(int64(5+i), n), l.Get(int64(5+i), n)
			for k := range a {
				if shares(a[k].Data, b[k].Data) {
					t.Errorf("P0.3: two answers share a text")
				}
			}
			spoil(a)
			if want := m.get(int64(5+i), n); !slices.Equal(b, want) {
				t.Errorf("P0.3: another answer is %v, not %v", b, want)
			}
			spoil(append(b, api.Entry{}))
			checkLog(t, "P0.3: behind writing into answers", l, m)
		}
	}
	if a, b := l.Snap(), l.Snap(); shares(a.Data, b.Data) || shares(a.Conf, b.Conf) {
		t.Error("P0.3: two snapshots share a text")
	}
}

func TestConfIsNewMemory(t *testing.T) {
	for _, l := range []*rlog.Log{rlog.New(api.Snap{Conf: "123"}, nil), rlog.New(api.Snap{}, confs(1, "123"))} {
		_, at := l.Conf()
		a, _ := l.Conf()
		b, _ := l.Conf()
		for i := range a[:cap(a)] {
			a[:cap(a)][i] = 99
		}
		if !slices.Equal(b, []int{1, 2, 3}) {
			t.Errorf("P0.3: another answer is %v", b)
		}
		checkConf(t, l, []int{1, 2, 3}, at)
	}
}

// What was told does not change with what comes behind it.
func TestToldEntriesStay(t *testing.T) {
	l := rlog.New(api.Snap{}, entries(1, 1, 1, 1, 1))
	a, s := all(l), l.Snap()
	l.Put(entries(2, 5))
	b := all(l)
	l.Pack(snap(1, 1))
	c := all(l)
	l.Put(entries(2, 9, 9, 9))
	l.Set(snap(7, 7))
	l.Put(entries(8, 8, 8, 8))
	if !slices.Equal(a, entries(1, 1, 1, 1, 1)) || s != (api.Snap{}) {
		t.Errorf("P0.3: what was told is now %v, %v", s, a)
	}
	if !slices.Equal(b, append(entries(1, 1), entries(2, 5)...)) || !slices.Equal(c, entries(2, 5)) {
		t.Errorf("P0.3: what was told is now %v, %v", b, c)
	}
}

func TestEachGoesItsOwnWay(t *testing.T) {
	room, _ := loaned(entries(5, 2, 2, 2))
	a, m := newBoth(t, snap(4, 2), room)
	b, n := newBoth(t, snap(4, 2), room)
	checkPut(t, a, m, entries(6, 7))
	checkPut(t, b, n, entries(8, 8))
	checkPack(t, a, m, snap(5, 2))
	checkPut(t, b, n, entries(5, 9, 9))
	checkLog(t, "P0.5: of two logs", a, m)
	checkLog(t, "P0.5: of two logs", b, n)
	c, o := newBoth(t, b.Snap(), all(b))
	checkPut(t, c, o, entries(6, 10))
	checkLog(t, "P0.5: of two logs", b, n)
}

func TestTheSameAnswerAgain(t *testing.T) {
	run := func() string {
		p := picker(9)
		l, m := newBoth(t, api.Snap{}, nil)
		for range 120 {
			p.step(t, l, m, 8)
		}
		return fmt.Sprint(l.Snap(), all(l))
	}
	s := run()
	for range 3 {
		if again := run(); again != s {
			t.Errorf("P0.5: another answer: %s, not %s", short(again), short(s))
		}
	}
}
