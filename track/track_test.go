package track_test

import (
	"math"
	"slices"
	"testing"

	"packhorse/track"
)

// top is the greatest Index that there may be.
const top = 1 << 40

// edges answers Indexes that may be, round the ends and in between.
func edges() []int64 {
	return []int64{0, 1, 2, 3, 4, 5, 6, 9, 10, 11, 1<<31 - 1, 1 << 31, 1<<32 - 1, 1 << 32, 1<<32 + 1, top - 2, top - 1, top}
}

// badIndexes answers numbers that no Index may be, many of which would be one if a few bits of them were lost.
func badIndexes() []int64 {
	l := []int64{math.MinInt64, math.MinInt64 + 1, -top - 1, -top, -top + 1, -10, -3, -2, -1, top + 1, top + 2, top + 9,
		math.MaxInt64 - 1, math.MaxInt64}
	for k := 41; k < 63; k++ {
		l = append(l, 1<<k, 1<<k+9, -1<<k, -1<<k+9)
	}
	return l
}

// strangers answers numbers that are no server's, many of which would be one's if a few bits of them were lost.
func strangers() []int {
	l := []int{math.MinInt, math.MinInt + 1, -256, -8, -7, -3, -2, -1, 0, 8, 9, 10, 15, '1', '7', 255, 256, 257, 263,
		math.MaxInt - 1, math.MaxInt}
	for k := 3; k < 63; k++ {
		for id := 1; id <= 7; id++ {
			l = append(l, 1<<k+id, -1<<k+id-8)
		}
	}
	return l
}

// lists answers each list of servers that may be.
func lists() [][]int {
	var all [][]int
	for set := 1; set < 1<<7; set++ {
		var l []int
		for id := 1; id <= 7; id++ {
			if set>>(id-1)&1 == 1 {
				l = append(l, id)
			}
		}
		all = append(all, l)
	}
	return all
}

// badLists answers lists that may not be.
func badLists() [][]int {
	l := [][]int{nil, {}, {1, 1}, {2, 1}, {1, 3, 2}, {1, 2, 2}, {1, 2, 3, 4, 5, 6, 7, 7}, {1, 2, 3, 4, 5, 6, 7, 8}}
	for _, id := range strangers() {
		l = append(l, []int{id}, []int{1, 2, 3, id})
	}
	return l
}

// model is a Track as the document tells it, by the servers' numbers.
type model struct {
	next, match [8]int64
}

func newModel(last int64) *model {
	m := &model{}
	for id := 1; id <= 7; id++ {
		m.next[id] = last + 1
	}
	return m
}

// may says whether a call is of a server, and tells of an Index.
func may(id int, i int64) bool { return 1 <= id && id <= 7 && 0 <= i && i <= top }

func (m *model) yes(id int, i int64) bool {
	if !may(id, i) {
		return false
	}
	grown := i > m.match[id]
	if grown {
		m.match[id] = i
	}
	if m.next[id] < m.match[id]+1 {
		m.next[id] = m.match[id] + 1
	}
	return grown
}

func (m *model) no(id int, i int64) bool {
	if !may(id, i) {
		return false
	}
	next := m.next[id] - 1
	if i+1 < next {
		next = i + 1
	}
	if next < m.match[id]+1 {
		next = m.match[id] + 1
	}
	changed := next != m.next[id]
	m.next[id] = next
	return changed
}

func (m *model) sent(id int, i int64) bool {
	if may(id, i) && i+1 > m.next[id] {
		m.next[id] = i + 1
	}
	return false
}

// middle tries each of the numbers, and counts who has it. Of l that may be.
func (m *model) middle(l []int, self int, last int64) int64 {
	has := map[int]int64{}
	for _, id := range l {
		has[id] = m.match[id]
		if id == self {
			has[id] = last
		}
	}
	var fit []int64
	for _, low := range has {
		n := 0
		for _, at := range has {
			if at >= low {
				n++
			}
		}
		if 2*n > len(l) {
			fit = append(fit, low)
		}
	}
	return slices.Max(fit)
}

// check holds all that can be asked of servers against the model.
func check(t *testing.T, tr *track.Track, m *model, call ...any) {
	t.Helper()
	for id := 1; id <= 7; id++ {
		if next, match := tr.Next(id), tr.Match(id); next != m.next[id] || match != m.match[id] {
			t.Fatalf("P15.1: %v: the server %d: Next %d, Match %d, not %d, %d", call, id, next, match, m.next[id], m.match[id])
		}
	}
}

// newBoth answers a Track and its model; last may be.
func newBoth(t *testing.T, last int64) (*track.Track, *model) {
	t.Helper()
	tr, m := track.New(last), newModel(last)
	check(t, tr, m, "New", last)
	return tr, m
}

// A word is one of the calls that tell something.
const (
	yes = iota
	no
	sent
	words
)

// tell hands a word to both, and holds what they answer against each other.
func tell(t *testing.T, tr *track.Track, m *model, word, id int, i int64) {
	t.Helper()
	before := *m
	got, want, name := false, false, ""
	switch word {
	case yes:
		got, want, name = tr.Yes(id, i), m.yes(id, i), "Yes"
	case no:
		got, want, name = tr.No(id, i), m.no(id, i), "No"
	case sent:
		tr.Sent(id, i)
		want, name = m.sent(id, i), "Sent"
	}
	if got != want {
		t.Fatalf("P15.1: %s(%d, %d) behind %v: %t", name, id, i, before, got)
	}
	check(t, tr, m, name, id, i, "behind", before)
}

// checkMiddle asks for l that may be.
func checkMiddle(t *testing.T, tr *track.Track, m *model, l []int, self int, last int64) {
	t.Helper()
	if got, want := tr.Middle(l, self, last), m.middle(l, self, last); got != want {
		t.Fatalf("P15.1: Middle(%v, %d, %d) of %v: %d, not %d", l, self, last, m.match, got, want)
	}
}

// picker picks numbers in an order that is the same each time.
type picker uint64

func (p *picker) below(n int) int {
	*p = *p*6364136223846793005 + 1442695040888963407
	return int(uint64(*p) >> 33 % uint64(n))
}

// P15.1: New

func TestNew(t *testing.T) {
	for _, last := range edges() {
		newBoth(t, last)
	}
	for k := range 40 {
		for d := int64(-1); d <= 1; d++ {
			newBoth(t, 1<<k+d)
		}
	}
}

func TestNewOfWhatMayNotBe(t *testing.T) {
	for _, last := range badIndexes() {
		tr, m := track.New(last), newModel(0)
		check(t, tr, m, "New", last)
		tell(t, tr, m, sent, 3, 4)
	}
}

// P15.1: Yes, No, Sent

// TestEachWord tells each of the words from each place that Next and Match may have near to each other.
func TestEachWord(t *testing.T) {
	for last := range int64(6) {
		for match := range int64(7) {
			for next := match + 1; next <= match+4; next++ {
				for i := range next + 3 {
					for word := range words {
						tr, m := newBoth(t, last)
						tell(t, tr, m, yes, 5, match)
						tell(t, tr, m, no, 5, match)
						tell(t, tr, m, sent, 5, next-1)
						tell(t, tr, m, word, 5, i)
						tell(t, tr, m, word, 5, i)
					}
				}
			}
		}
	}
}

func TestYes(t *testing.T) {
	for id := 1; id <= 7; id++ {
		tr := track.New(10)
		for _, x := range []struct {
			i           int64
			grown       bool
			next, match int64
		}{{0, false, 11, 0}, {4, true, 11, 4}, {4, false, 11, 4}, {3, false, 11, 4}, {0, false, 11, 4}, {9, true, 11, 9}, {10, true, 11, 10},
			{11, true, 12, 11}, {11, false, 12, 11}, {20, true, 21, 20}, {1, false, 21, 20}, {top, true, top + 1, top}, {top, false, top + 1, top}} {
			if got := tr.Yes(id, x.i); got != x.grown || tr.Next(id) != x.next || tr.Match(id) != x.match {
				t.Errorf("P15.1: Yes(%d, %d): %t, Next %d, Match %d, not %v", id, x.i, got, tr.Next(id), tr.Match(id), x)
			}
		}
	}
}

func TestYesLiftsNext(t *testing.T) {
	tr, m := newBoth(t, 10)
	tell(t, tr, m, no, 2, 3)
	tell(t, tr, m, yes, 2, 2)
	if tr.Next(2) != 4 || tr.Match(2) != 2 {
		t.Errorf("P15.1: Next %d, Match %d: Yes below Next changes it", tr.Next(2), tr.Match(2))
	}
	tell(t, tr, m, yes, 2, 4)
	if tr.Next(2) != 5 || tr.Match(2) != 4 {
		t.Errorf("P15.1: Next %d, Match %d: Yes doesn't lift Next", tr.Next(2), tr.Match(2))
	}
}

func TestNo(t *testing.T) {
	for _, x := range []struct {
		i       int64
		changed bool
		next    int64
	}{{0, true, 5}, {3, true, 5}, {4, true, 5}, {5, true, 6}, {8, true, 9}, {9, true, 10}, {10, true, 10}, {11, true, 10}, {top, true, 10}} {
		tr := track.New(10)
		tr.Yes(6, 4)
		if got := tr.No(6, x.i); got != x.changed || tr.Next(6) != x.next || tr.Match(6) != 4 {
			t.Errorf("P15.1: No(6, %d): %t, Next %d, Match %d, not %v", x.i, got, tr.Next(6), tr.Match(6), x)
		}
	}
	for _, i := range edges() {
		tr := track.New(10)
		tr.Yes(6, 10)
		if tr.No(6, i) || tr.Next(6) != 11 || tr.Match(6) != 10 {
			t.Errorf("P15.1: No(6, %d) goes below Match: Next %d, Match %d", i, tr.Next(6), tr.Match(6))
		}
	}
}

// Told again and again, No goes down to where nothing is left to change.
func TestNoGoesDown(t *testing.T) {
	for match := range int64(9) {
		tr, m := newBoth(t, 30)
		tell(t, tr, m, yes, 4, match)
		for range 30 {
			tell(t, tr, m, no, 4, top)
		}
		if tr.No(4, top) || tr.No(4, 0) || tr.Next(4) != match+1 {
			t.Errorf("P15.1: with Match %d No goes down to Next %d", match, tr.Next(4))
		}
	}
}

func TestSent(t *testing.T) {
	for _, x := range []struct{ i, next int64 }{{0, 11}, {9, 11}, {10, 11}, {11, 12}, {12, 13}, {1 << 33, 1<<33 + 1}, {top, top + 1}} {
		tr := track.New(10)
		tr.Yes(7, 4)
		tr.Sent(7, x.i)
		if tr.Next(7) != x.next || tr.Match(7) != 4 {
			t.Errorf("P15.1: Sent(7, %d): Next %d, Match %d, not %d, 4", x.i, tr.Next(7), tr.Match(7), x.next)
		}
	}
}

func TestIndexesAtTheEdges(t *testing.T) {
	for _, last := range []int64{0, 10, top - 1, top} {
		for _, first := range append(edges(), badIndexes()...) {
			for _, second := range append(edges(), badIndexes()...) {
				tr, m := newBoth(t, last)
				tell(t, tr, m, sent, 1, first)
				tell(t, tr, m, yes, 1, second)
				tell(t, tr, m, no, 1, first)
				tell(t, tr, m, sent, 2, first)
				tell(t, tr, m, no, 2, second)
				tell(t, tr, m, yes, 2, first)
			}
		}
	}
}

func TestIndexesThatMayNotBe(t *testing.T) {
	for _, i := range badIndexes() {
		tr, m := newBoth(t, 10)
		tell(t, tr, m, yes, 3, 4)
		for word := range words {
			tell(t, tr, m, word, 3, i)
			tell(t, tr, m, word, 1, i)
		}
		if tr.Next(3) != 11 || tr.Match(3) != 4 || tr.Next(1) != 11 || tr.Match(1) != 0 {
			t.Errorf("P15.1: the Index %d counts: %d, %d, %d, %d", i, tr.Next(3), tr.Match(3), tr.Next(1), tr.Match(1))
		}
	}
}

func TestOthers(t *testing.T) {
	tr, m := newBoth(t, 10)
	for _, id := range strangers() {
		for _, i := range []int64{0, 4, 10, 11, 20, top, -1, top + 1} {
			for word := range words {
				tell(t, tr, m, word, id, i)
			}
		}
		if tr.Next(id) != 0 || tr.Match(id) != 0 {
			t.Errorf("P15.1: the server %d: Next %d, Match %d", id, tr.Next(id), tr.Match(id))
		}
	}
}

// What one server has said tells nothing of the others.
func TestEachServerForItself(t *testing.T) {
	tr, m := newBoth(t, 10)
	for id := 1; id <= 7; id++ {
		tell(t, tr, m, no, id, int64(id)+1)
		tell(t, tr, m, yes, id, int64(id))
		tell(t, tr, m, sent, 8-id, int64(20+id))
	}
}

func TestWalks(t *testing.T) {
	p, ids, bad := picker(15), strangers(), badIndexes()
	for range 1500 {
		tr, m := newBoth(t, int64(p.below(14)))
		for range 30 {
			id, i := 1+p.below(7), int64(p.below(16))
			if p.below(16) == 0 {
				id = ids[p.below(len(ids))]
			}
			if p.below(16) == 0 {
				i = bad[p.below(len(bad))]
			}
			tell(t, tr, m, p.below(words), id, i)
		}
		all := lists()
		checkMiddle(t, tr, m, all[p.below(len(all))], p.below(9), int64(p.below(16)))
	}
}

// P15.1: Middle

func TestMiddle(t *testing.T) {
	// Matches of the servers 1 to 7.
	at := []int64{0, 3, 9, 1, 7, 0, 5, 7}
	for _, x := range []struct {
		l    []int
		self int
		last int64
		want int64
	}{
		{[]int{2}, 2, 12, 12}, {[]int{2}, 1, 12, 9}, {[]int{5}, 1, 12, 0},
		{[]int{1, 2}, 1, 12, 9}, {[]int{1, 2}, 2, 12, 3}, {[]int{1, 2}, 3, 12, 3},
		{[]int{1, 2, 3}, 1, 12, 9}, {[]int{1, 2, 3}, 2, 12, 3}, {[]int{1, 2, 3}, 3, 12, 9}, {[]int{1, 2, 3}, 4, 12, 3},
		{[]int{1, 2, 3}, 3, 4, 4}, {[]int{1, 2, 3}, 3, 2, 3}, {[]int{3, 4, 5}, 5, 4, 4}, {[]int{4, 5, 7}, 5, 0, 7},
		{[]int{1, 2, 3, 4}, 3, 12, 7}, {[]int{1, 2, 3, 4}, 2, 12, 3}, {[]int{4, 5, 6, 7}, 4, 8, 5},
		{[]int{1, 2, 3, 4, 5}, 1, 9, 7}, {[]int{1, 2, 3, 5, 6}, 5, 12, 5}, {[]int{1, 2, 3, 4, 5, 6}, 5, 12, 5},
		{[]int{1, 2, 3, 4, 5, 6, 7}, 5, 12, 7}, {[]int{1, 2, 3, 4, 5, 6, 7}, 2, 12, 5}, {[]int{1, 2, 3, 4, 5, 6, 7}, 8, 12, 5},
	} {
		tr := track.New(12)
		for id, match := range at {
			tr.Yes(id, match)
		}
		if got := tr.Middle(x.l, x.self, x.last); got != x.want {
			t.Errorf("P15.1: Middle(%v, %d, %d) of %v: %d, not %d", x.l, x.self, x.last, at[1:], got, x.want)
		}
	}
}

func TestMiddleOfAllLists(t *testing.T) {
	p := picker(7)
	for _, l := range lists() {
		for range 60 {
			tr, m := newBoth(t, 12)
			for id := 1; id <= 7; id++ {
				tell(t, tr, m, yes, id, int64(p.below(9)))
				tell(t, tr, m, sent, id, int64(p.below(20)))
			}
			for self := range 10 {
				checkMiddle(t, tr, m, l, self, int64(p.below(12)))
			}
		}
	}
}

// The chapter asks nothing of the last that Middle is given.
func TestMiddleOfAnyLast(t *testing.T) {
	for _, last := range append(edges(), badIndexes()...) {
		tr, m := newBoth(t, 10)
		for id := 1; id <= 7; id++ {
			tell(t, tr, m, yes, id, int64(id))
		}
		for _, l := range lists() {
			for id := 1; id <= 7; id++ {
				checkMiddle(t, tr, m, l, id, last)
			}
		}
		if got := tr.Middle([]int{3}, 3, last); got != last {
			t.Errorf("P15.1: Middle([3], 3, %d): %d", last, got)
		}
	}
}

// A self that is none of l, and one that is no server, leave all Matches as they are.
func TestMiddleOfOthers(t *testing.T) {
	tr, m := newBoth(t, 10)
	for id := 1; id <= 7; id++ {
		tell(t, tr, m, yes, id, int64(id))
	}
	for _, self := range strangers() {
		for _, l := range lists() {
			checkMiddle(t, tr, m, l, self, 50)
		}
	}
	if got := tr.Middle([]int{2, 3, 4}, 7, 50); got != 3 {
		t.Errorf("P15.1: Middle([2 3 4], 7, 50): %d, not 3", got)
	}
}

func TestMiddleOfWhatMayNotBe(t *testing.T) {
	tr := track.New(10)
	for id := 1; id <= 7; id++ {
		tr.Yes(id, 9)
	}
	for _, l := range badLists() {
		for self := range 9 {
			if got := tr.Middle(l, self, 9); got != 0 {
				t.Errorf("P15.1: Middle(%v, %d, 9): %d", l, self, got)
			}
		}
	}
}

// Middle only asks: the leader's own Match stays what it was.
func TestMiddleChangesNothing(t *testing.T) {
	tr, m := newBoth(t, 10)
	tell(t, tr, m, yes, 2, 4)
	for _, l := range append(lists(), badLists()...) {
		for self := -1; self < 10; self++ {
			tr.Middle(l, self, 77)
		}
	}
	check(t, tr, m, "Middle")
	if got := tr.Middle([]int{1, 2}, 2, 9); got != 0 {
		t.Errorf("P15.1: Middle keeps a last that it was given: %d", got)
	}
}

// A nil *Track, and one that New has not made

func TestNil(t *testing.T) {
	var tr *track.Track
	for _, id := range append([]int{1, 2, 3, 4, 5, 6, 7}, strangers()...) {
		for _, i := range append(edges(), badIndexes()...) {
			tr.Sent(id, i)
			if tr.Next(id) != 0 || tr.Match(id) != 0 || tr.Yes(id, i) || tr.No(id, i) {
				t.Fatalf("P15.1: a nil *Track answers of %d, %d", id, i)
			}
			if tr.Middle([]int{1}, 1, i) != 0 || tr.Middle([]int{1, 2, 3}, id, i) != 0 || tr.Middle(nil, id, i) != 0 {
				t.Fatalf("P15.1: Middle of a nil *Track with %d, %d", id, i)
			}
		}
	}
}

func TestTrackOfItsOwn(t *testing.T) {
	tr, m := &track.Track{}, newModel(0)
	check(t, tr, m, "a zero Track")
	tell(t, tr, m, no, 1, 0)
	tell(t, tr, m, sent, 1, 4)
	tell(t, tr, m, yes, 2, 3)
	checkMiddle(t, tr, m, []int{1, 2}, 1, 9)
}

// What holds everywhere

func TestLongLists(t *testing.T) {
	tr := track.New(10)
	l := make([]int, 1<<20)
	for name, at := range map[string]func(int) int{
		"zeros": func(int) int { return 0 }, "servers again and again": func(i int) int { return i%7 + 1 }, "rising": func(i int) int { return i + 1 },
	} {
		for i := range l {
			l[i] = at(i)
		}
		if got := tr.Middle(l, 1, 9); got != 0 {
			t.Errorf("P0.1: Middle of a long list, %s: %d", name, got)
		}
	}
}

func TestArgumentsStay(t *testing.T) {
	for _, whole := range [][]int{{1, 2, 3, 4, 5, 6, 7, 91, 92, 93}, {7, 5, 3, 1, 2, 2, 9, 8}} {
		given := slices.Clone(whole)
		tr := track.New(10)
		for n := range whole {
			for self := range 9 {
				tr.Middle(whole[:n], self, 9)
			}
		}
		if !slices.Equal(whole, given) {
			t.Errorf("P0.3: Middle changes a list that it was handed: %v, not %v", whole, given)
		}
	}
}

func TestListsAreNotKept(t *testing.T) {
	tr, m := newBoth(t, 10)
	tell(t, tr, m, yes, 2, 4)
	tell(t, tr, m, yes, 3, 6)
	l := []int{1, 2, 3}
	checkMiddle(t, tr, m, l, 1, 9)
	copy(l, []int{4, 5, 6})
	check(t, tr, m, "writing into a list that was handed in")
	checkMiddle(t, tr, m, []int{1, 2, 3}, 1, 9)
	checkMiddle(t, tr, m, l, 4, 9)
}

func TestEmptyIsNil(t *testing.T) {
	tr := track.New(10)
	tr.Yes(1, 9)
	for _, l := range [][]int{nil, {}, []int{1, 2, 3}[:0]} {
		if got := tr.Middle(l, 1, 9); got != 0 {
			t.Errorf("P0.4: Middle of none: %d", got)
		}
	}
}

func TestEachGoesItsOwnWay(t *testing.T) {
	a, m := newBoth(t, 10)
	b, n := newBoth(t, 10)
	tell(t, a, m, yes, 1, 4)
	tell(t, b, n, no, 1, 2)
	tell(t, a, m, sent, 2, 30)
	check(t, b, n, "the other one")
	// A copy goes its own way, too.
	c, o := *a, *m
	tell(t, &c, &o, yes, 1, 8)
	check(t, a, m, "the one that was copied")
}

func TestSameAgain(t *testing.T) {
	for _, last := range edges() {
		tr, m := newBoth(t, last)
		tell(t, tr, m, yes, 3, 4)
		tell(t, tr, m, no, 4, 2)
		for range 3 {
			check(t, tr, m, "asked again")
			checkMiddle(t, tr, m, []int{1, 3, 4}, 1, 9)
			checkMiddle(t, tr, m, []int{1, 3, 4}, 3, 1)
		}
	}
}
