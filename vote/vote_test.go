package vote_test

import (
	"fmt"
	"math"
	"slices"
	"testing"

	"packhorse/vote"
)

// lists answers each list of servers that may be.
func lists() [][]int {
	var all [][]int
	for set := 1; set < 1<<7; set++ {
		var l []int
		for id := 1; id <= 7; id++ {
			if set>>(id-1)&1 == 1 {
				l = append(l, id)
			}
		}
		all = append(all, l)
	}
	return all
}

// strangers answers numbers that are no server's, many of which would be one's if a few bits of them were lost.
func strangers() []int {
	l := []int{math.MinInt, math.MinInt + 1, -256, -8, -7, -3, -2, -1, 0, 8, 9, 10, 15, '1', '7', 255, 256, 257, 263,
		math.MaxInt - 1, math.MaxInt}
	for k := 3; k < 63; k++ {
		for id := 1; id <= 7; id++ {
			l = append(l, 1<<k+id, -1<<k+id-8)
		}
	}
	return l
}

// badLists answers lists that may not be.
func badLists() [][]int {
	l := [][]int{nil, {}, {0}, {8}, {-1}, {1, 1}, {7, 7}, {2, 1}, {7, 1}, {1, 3, 2}, {2, 3, 1}, {1, 2, 2}, {1, 1, 2}, {1, 2, 1},
		{3, 2, 1}, {0, 1}, {1, 0}, {0, 1, 2}, {1, 2, 8}, {7, 8}, {-1, 1}, {1, -1}, {1, 2, 3, 4, 5, 6, 7, 8},
		{0, 1, 2, 3, 4, 5, 6, 7}, {1, 2, 3, 4, 5, 6, 7, 7}, {1, 2, 3, 4, 5, 6, 7, 1}, {7, 6, 5, 4, 3, 2, 1}}
	for _, id := range strangers() {
		l = append(l, []int{id}, []int{id, 3}, []int{3, id}, []int{1, id, 7}, []int{1, 2, 3, 4, 5, 6, id})
	}
	return l
}

// A word is what a server is told to have said.
const (
	silent = 0
	yes    = 1
	no     = 2
)

// model is the votes as the document tells them: what each server said first.
type model struct {
	l    []int
	said map[int]int
}

func newModel(l []int) *model { return &model{l, map[int]int{}} }

func (m *model) take(id, word int) bool {
	if !slices.Contains(m.l, id) || m.said[id] != silent {
		return false
	}
	m.said[id] = word
	return true
}

func (m *model) count(word int) int {
	n := 0
	for _, id := range m.l {
		if m.said[id] == word {
			n++
		}
	}
	return n
}

func (m *model) won() bool { return 2*m.count(yes) > len(m.l) }

func (m *model) lost() bool { return 2*(len(m.l)-m.count(no)) <= len(m.l) }

// tell hands a word to both, and holds what they answer against each other.
func tell(t *testing.T, v *vote.Votes, m *model, id, word int) {
	t.Helper()
	before := fmt.Sprint(m.said)
	got, want := false, m.take(id, word)
	if word == yes {
		got = v.Yes(id)
	} else {
		got = v.No(id)
	}
	if got != want {
		t.Errorf("P14.1: %v, said %s: %d says %d: %t, not %t", m.l, before, id, word, got, want)
	}
	check(t, v, m)
}

func check(t *testing.T, v *vote.Votes, m *model) {
	t.Helper()
	if won, lost := v.Won(), v.Lost(); won != m.won() || lost != m.lost() {
		t.Errorf("P14.1: %v, said %v: won %t, lost %t", m.l, m.said, won, lost)
	}
}

// checkNeither asks for what counts nothing, whatever it was told.
func checkNeither(t *testing.T, v *vote.Votes, of any) {
	t.Helper()
	for _, id := range append([]int{1, 2, 3, 4, 5, 6, 7}, strangers()...) {
		if v.Won() || v.Lost() || v.Yes(id) || v.No(id) || v.Won() || v.Lost() {
			t.Errorf("P14.1: %v, %d: something is true", of, id)
		}
	}
}

// picker picks numbers in an order that is the same each time.
type picker uint64

func (p *picker) below(n int) int {
	*p = *p*6364136223846793005 + 1442695040888963407
	return int(uint64(*p) >> 33 % uint64(n))
}

// P14.1: what counts

func TestEachVotesOnce(t *testing.T) {
	for _, first := range []int{yes, no} {
		for _, second := range []int{yes, no} {
			for _, l := range lists() {
				v, m := vote.New(l), newModel(l)
				for _, id := range l {
					tell(t, v, m, id, first)
					tell(t, v, m, id, second)
				}
				for _, id := range l {
					tell(t, v, m, id, second)
				}
			}
		}
	}
}

func TestOthersDoNotCount(t *testing.T) {
	for _, l := range lists() {
		v, m := vote.New(l), newModel(l)
		for id := 1; id <= 7; id++ {
			if !slices.Contains(l, id) {
				tell(t, v, m, id, yes)
				tell(t, v, m, id, no)
			}
		}
		for _, id := range strangers() {
			tell(t, v, m, id, yes)
			tell(t, v, m, id, no)
		}
		// All of l can vote yet.
		for _, id := range l {
			tell(t, v, m, id, yes)
		}
	}
}

// P14.1: Won, Lost

func TestHowManyItTakes(t *testing.T) {
	for n, takes := range []struct{ won, lost int }{{}, {1, 1}, {2, 1}, {2, 2}, {3, 2}, {3, 3}, {4, 3}, {4, 4}} {
		l := []int{1, 2, 3, 4, 5, 6, 7}[:n]
		for said := 1; said <= n; said++ {
			v, w := vote.New(l), vote.New(l)
			for _, id := range l[n-said:] {
				v.Yes(id)
				w.No(id)
			}
			if v.Won() != (said >= takes.won) || v.Lost() {
				t.Errorf("P14.1: %d of %d say yes: won %t, lost %t", said, n, v.Won(), v.Lost())
			}
			if w.Won() || w.Lost() != (said >= takes.lost) {
				t.Errorf("P14.1: %d of %d say no: won %t, lost %t", said, n, w.Won(), w.Lost())
			}
		}
	}
}

func TestAllThatCanBeSaid(t *testing.T) {
	for _, l := range lists() {
		for words := range power(3, len(l)) {
			v, m := vote.New(l), newModel(l)
			for _, id := range l {
				if word := words % 3; word != silent {
					tell(t, v, m, id, word)
				}
				words /= 3
			}
			check(t, v, m)
		}
	}
}

func power(n, k int) int {
	p := 1
	for range k {
		p *= n
	}
	return p
}

// TestLostIsWhatCannotBeWon asks the program itself: it is lost when no rest of the votes would win it.
func TestLostIsWhatCannotBeWon(t *testing.T) {
	for _, l := range lists() {
		for set := range power(2, len(l)) {
			v := vote.New(l)
			for i, id := range l {
				if set>>i&1 == 1 {
					v.No(id)
				}
			}
			lost := v.Lost()
			for _, id := range l {
				v.Yes(id)
			}
			if lost == v.Won() || v.Lost() != lost {
				t.Errorf("P14.1: %v, no of %b: lost %t, and in the end won %t, lost %t", l, set, lost, v.Won(), v.Lost())
			}
		}
	}
}

func TestAnyOrder(t *testing.T) {
	var turn func(l, rest []int, ask func([]int))
	turn = func(l, rest []int, ask func([]int)) {
		if len(rest) == 0 {
			ask(l)
		}
		for i := range rest {
			turn(append(slices.Clone(l), rest[i]), slices.Delete(slices.Clone(rest), i, i+1), ask)
		}
	}
	l := []int{1, 2, 4, 6, 7}
	turn(nil, l, func(order []int) {
		for set := range power(2, len(l)) {
			v, m := vote.New(l), newModel(l)
			for i, id := range order {
				tell(t, v, m, id, yes+set>>i&1)
			}
		}
	})
}

func TestWalks(t *testing.T) {
	p, all, none := picker(14), lists(), strangers()
	for range 3000 {
		l := all[p.below(len(all))]
		v, m := vote.New(l), newModel(l)
		for range 20 {
			id := p.below(9)
			if p.below(8) == 0 {
				id = none[p.below(len(none))]
			}
			tell(t, v, m, id, yes+p.below(2))
		}
	}
}

// P14.1: what may not be, and nil

func TestWhatMayNotBe(t *testing.T) {
	for _, l := range badLists() {
		checkNeither(t, vote.New(l), l)
	}
}

func TestNone(t *testing.T) {
	var v *vote.Votes
	checkNeither(t, v, "nil")
	checkNeither(t, &vote.Votes{}, "the zero Votes")
}

// What holds everywhere

func TestLongLists(t *testing.T) {
	l := make([]int, 1<<20)
	checkNeither(t, vote.New(l), "zeros")
	for i := range l {
		l[i] = i%7 + 1
	}
	checkNeither(t, vote.New(l), "servers again and again")
	for i := range l {
		l[i] = i + 1
	}
	checkNeither(t, vote.New(l), "rising")
}

func TestArgumentsStay(t *testing.T) {
	whole := []int{1, 2, 3, 4, 5, 6, 7, 91, 92, 93}
	for n := range 9 {
		l := whole[:n]
		v := vote.New(l)
		for _, id := range whole {
			v.Yes(id)
			v.No(id)
			v.Won()
			v.Lost()
		}
		if !slices.Equal(whole, []int{1, 2, 3, 4, 5, 6, 7, 91, 92, 93}) {
			t.Fatalf("P0.3: New of %d: %v", n, whole)
		}
	}
}

func TestListsAreNotKept(t *testing.T) {
	whole := []int{1, 2, 3, 4, 5}
	v := vote.New(whole[:3])
	m := newModel([]int{1, 2, 3})
	tell(t, v, m, 1, yes)
	for i, bad := range []int{4, 5, 6, 7, 9} {
		whole[i] = bad
	}
	for id := range 10 {
		tell(t, v, m, id, no)
	}
	if !v.Lost() {
		t.Error("P0.3: New keeps the list that it was handed")
	}
	// A list that may not be stays one that counts nothing, when it has become another one.
	bad := []int{2, 1}
	w := vote.New(bad)
	slices.Sort(bad)
	checkNeither(t, w, "2, 1")
}

func TestEmptyIsNil(t *testing.T) {
	checkNeither(t, vote.New([]int{}), "empty")
	checkNeither(t, vote.New([]int{1, 2, 3}[:0]), "empty, with room")
	checkNeither(t, vote.New(nil), "nil")
}

func TestSameAgain(t *testing.T) {
	for _, l := range lists() {
		v, w, m := vote.New(l), vote.New(l), newModel(l)
		for i, id := range l {
			tell(t, v, m, id, yes+i&1)
			for range 3 {
				check(t, v, m)
			}
		}
		// What the one was told, the other one doesn't know.
		fresh := newModel(l)
		check(t, w, fresh)
		for _, id := range l {
			tell(t, w, fresh, id, no)
		}
		check(t, v, m)
	}
}
