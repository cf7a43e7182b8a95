package conf_test

import (
	"fmt"
	"math"
	"math/bits"
	"slices"
	"strings"
	"testing"

	"packhorse/conf"
)

// A set of servers is held here as a number: the bit id of it says that the server id is in it.

// all is the set of all seven.
const all = 0xfe

// sets answers each set of servers, the empty one first.
func sets() []int {
	var l []int
	for set := 0; set <= all; set += 2 {
		l = append(l, set)
	}
	return l
}

// listOf answers a set's servers, rising.
func listOf(set int) []int {
	var l []int
	for id := 1; id <= 7; id++ {
		if set>>id&1 == 1 {
			l = append(l, id)
		}
	}
	return l
}

// digitsOf answers a set's digits, rising.
func digitsOf(set int) string {
	s := ""
	for id, digit := range "01234567" {
		if set>>id&1 == 1 {
			s += string(digit)
		}
	}
	return s
}

// edgeIds answers the servers' numbers, and others, some of which would be a server's if a few bits of them were lost.
func edgeIds() []int {
	l := []int{math.MinInt, math.MinInt + 1, -256, -49, -8, -7, -2, -1, 0, 1, 2, 3, 4, 5, 6, 7, 8, 9, 10, 15, 49, 55,
		255, 256, 257, 263, 1 << 32, 1<<32 + 1, math.MaxInt - 1, math.MaxInt}
	for k := range 63 {
		l = append(l, 1<<k+3, -1<<k+3)
	}
	return l
}

// badLists answers lists of servers that may not be.
func badLists() [][]int {
	l := [][]int{nil, {}, {1, 1}, {7, 7}, {2, 1}, {7, 1}, {1, 3, 2}, {2, 3, 1}, {1, 2, 2}, {1, 1, 2}, {1, 2, 1}, {3, 2, 1},
		{0, 1}, {1, 0}, {7, 8}, {-1, 1}, {1, -1}, {1, 2, 3, 4, 5, 6, 7, 8}, {0, 1, 2, 3, 4, 5, 6, 7}, {0, 1, 2, 3, 4, 5, 6},
		{1, 2, 3, 4, 5, 6, 6}, {1, 2, 3, 4, 5, 6, 7, 7}, {1, 2, 3, 4, 5, 6, 7, 1}, {7, 6, 5, 4, 3, 2, 1}}
	for _, id := range edgeIds() {
		if id < 1 || id > 7 {
			l = append(l, []int{id}, []int{id, 3}, []int{3, id}, []int{1, id, 7}, []int{1, 2, 3, 4, 5, 6, id})
		}
	}
	return l
}

// each hands over every list of n of ids. What is handed over is the same memory again.
func each(n int, ids []int, ask func([]int)) {
	l := make([]int, n)
	var put func(int)
	put = func(i int) {
		if i == n {
			ask(l)
			return
		}
		for _, id := range ids {
			l[i] = id
			put(i + 1)
		}
	}
	put(0)
}

// eachText hands over every text of n of digits' bytes.
func eachText(n int, digits string, ask func(string)) {
	if n == 0 {
		ask("")
		return
	}
	eachText(n-1, digits, func(s string) {
		for i := range len(digits) {
			ask(s + digits[i:i+1])
		}
	})
}

// short answers a text that tells of x, and is no page long.
func short(x any) string { return fmt.Sprintf("%.100s", fmt.Sprint(x)) }

func checkList(t *testing.T, call string, got []int, ok bool, want []int) {
	t.Helper()
	if ok != (want != nil) || !slices.Equal(got, want) {
		t.Errorf("P12.1: %s: %v, %t, not %v", call, got, ok, want)
	}
}

func checkDecode(t *testing.T, s string, want []int) {
	t.Helper()
	l, ok := conf.Decode(s)
	checkList(t, fmt.Sprintf("Decode(%.20q)", s), l, ok, want)
}

// P12.1: May, Encode, Decode

func TestMay(t *testing.T) {
	good := map[string]int{}
	for _, set := range sets()[1:] {
		good[fmt.Sprint(listOf(set))]++
		if l := listOf(set); !conf.May(l) {
			t.Errorf("P12.1: May(%v): false", l)
		}
	}
	for n := range 5 {
		each(n, []int{-1, 0, 1, 2, 3, 4, 5, 6, 7, 8}, func(l []int) {
			if got := conf.May(l); got != (good[fmt.Sprint(l)] == 1) {
				t.Errorf("P12.1: May(%v): %t", l, got)
			}
		})
	}
}

func TestWhatMayNotBe(t *testing.T) {
	for _, l := range badLists() {
		if conf.May(l) {
			t.Errorf("P12.1: May(%v): true", l)
		}
		if s := conf.Encode(l); s != "" {
			t.Errorf("P12.1: Encode(%v): %q", l, s)
		}
	}
}

func TestEncodeOfKnownLists(t *testing.T) {
	for s, l := range map[string][]int{"1": {1}, "7": {7}, "12": {1, 2}, "27": {2, 7}, "135": {1, 3, 5}, "1234567": {1, 2, 3, 4, 5, 6, 7}} {
		if got := conf.Encode(l); got != s {
			t.Errorf("P12.1: Encode(%v): %q", l, got)
		}
		checkDecode(t, s, l)
	}
}

func TestListsGoThereAndBack(t *testing.T) {
	for _, set := range sets() {
		if got := conf.Encode(listOf(set)); got != digitsOf(set) {
			t.Errorf("P12.1: Encode(%v): %q, not %q", listOf(set), got, digitsOf(set))
		}
		checkDecode(t, digitsOf(set), listOf(set))
	}
}

// wantOf answers the servers of which Encode could have made each text.
func wantOf() map[string][]int {
	want := map[string][]int{}
	for _, set := range sets()[1:] {
		want[digitsOf(set)] = listOf(set)
	}
	return want
}

func TestDecodeOfAllShortTexts(t *testing.T) {
	want := wantOf()
	var bytes [256]byte
	for c := range bytes {
		bytes[c] = byte(c)
	}
	for n := range 3 {
		eachText(n, string(bytes[:]), func(s string) { checkDecode(t, s, want[s]) })
	}
	for n := range 6 {
		eachText(n, "/0135678:", func(s string) { checkDecode(t, s, want[s]) })
	}
}

func TestDecodeOfOtherTexts(t *testing.T) {
	for _, set := range sets() {
		s := digitsOf(set)
		for i := range len(s) + 1 {
			for _, c := range []string{"0", "8", "9", " ", ",", "-", "+", "a", "\x00", "\x01", "\x07", "\n", "\xb1", "\xff", "é", "１"} {
				checkDecode(t, s[:i]+c+s[i:], nil)
			}
			if i < len(s) {
				checkDecode(t, s[:i]+s[i:i+1]+s[i:], nil)
				checkDecode(t, s+s[:i+1], nil)
			}
		}
	}
	for _, s := range []string{"12345678", "01234567", "1234567\x00", "1,2", "[1 2]", "7654321", "12345677", "11234567", "1234567 "} {
		checkDecode(t, s, nil)
	}
}

// P12.1: Has, Add, Remove

func TestHas(t *testing.T) {
	for _, set := range sets() {
		for _, id := range edgeIds() {
			want := id > 0 && id < 8 && set>>id&1 == 1
			if got := conf.Has(listOf(set), id); got != want {
				t.Errorf("P12.1: Has(%v, %d): %t", listOf(set), id, got)
			}
		}
	}
}

func TestAdd(t *testing.T) {
	for _, set := range sets() {
		for _, id := range edgeIds() {
			var want []int
			if set != 0 && id > 0 && id < 8 && set>>id&1 == 0 {
				want = listOf(set | 1<<id)
			}
			l, ok := conf.Add(listOf(set), id)
			checkList(t, fmt.Sprintf("Add(%v, %d)", listOf(set), id), l, ok, want)
		}
	}
}

func TestRemove(t *testing.T) {
	for _, set := range sets() {
		for _, id := range edgeIds() {
			var want []int
			if id > 0 && id < 8 && set>>id&1 == 1 {
				want = listOf(set &^ (1 << id))
			}
			l, ok := conf.Remove(listOf(set), id)
			checkList(t, fmt.Sprintf("Remove(%v, %d)", listOf(set), id), l, ok, want)
		}
	}
}

func TestTheLastOneStays(t *testing.T) {
	for id := 1; id <= 7; id++ {
		l, ok := conf.Remove([]int{id}, id)
		checkList(t, fmt.Sprintf("Remove([%d], %d)", id, id), l, ok, nil)
	}
}

func TestAddAndRemoveOfListsThatMayNotBe(t *testing.T) {
	for _, l := range badLists() {
		for _, id := range append(slices.Clone(l), edgeIds()...) {
			more, ok := conf.Add(l, id)
			checkList(t, fmt.Sprintf("Add(%v, %d)", l, id), more, ok, nil)
			less, ok := conf.Remove(l, id)
			checkList(t, fmt.Sprintf("Remove(%v, %d)", l, id), less, ok, nil)
		}
	}
}

// P12.1: Near

func TestNear(t *testing.T) {
	for _, a := range sets() {
		for _, b := range sets() {
			want := a != 0 && b != 0 && bits.OnesCount(uint(a^b)) <= 1
			if got := conf.Near(listOf(a), listOf(b)); got != want {
				t.Errorf("P12.1: Near(%v, %v): %t", listOf(a), listOf(b), got)
			}
		}
	}
}

func TestNearOfListsThatMayNotBe(t *testing.T) {
	for _, a := range badLists() {
		for _, b := range append(badLists(), []int{1}, []int{3}, []int{1, 2}, []int{1, 3}, []int{1, 2, 3}, listOf(all)) {
			if conf.Near(a, b) || conf.Near(b, a) {
				t.Errorf("P12.1: Near of %v and %v: true", a, b)
			}
		}
		if conf.Near(a, a) {
			t.Errorf("P12.1: Near(%v, itself): true", a)
		}
	}
}

func TestNearIsWhatOneChangeMakes(t *testing.T) {
	for _, set := range sets() {
		l := listOf(set)
		for id := 1; id <= 7; id++ {
			if more, ok := conf.Add(l, id); ok && (!conf.Near(l, more) || !conf.Near(more, l)) {
				t.Errorf("P12.1: Near of %v and %v: false", l, more)
			}
			if less, ok := conf.Remove(l, id); ok && (!conf.Near(l, less) || !conf.Near(less, l)) {
				t.Errorf("P12.1: Near of %v and %v: false", l, less)
			}
		}
	}
}

// P12.1: Majority

// said answers lists of those of a set in other orders, doubled, and with strangers among them.
func said(set int) [][]int {
	l := listOf(set)
	back := slices.Clone(l)
	slices.Reverse(back)
	strangers := []int{9, 0, -1, 8, math.MinInt, math.MaxInt, 257}
	return [][]int{l, back, slices.Concat(l, l, back), slices.Concat(strangers, back, strangers), slices.Concat(l, strangers)}
}

func TestMajority(t *testing.T) {
	for _, set := range sets() {
		for _, yes := range sets() {
			want := 2*bits.OnesCount(uint(set&yes)) > bits.OnesCount(uint(set))
			for _, l := range said(yes) {
				if got := conf.Majority(listOf(set), l); got != want {
					t.Errorf("P12.1: Majority(%v, %v): %t", listOf(set), l, got)
				}
			}
		}
	}
}

func TestMajorityOfEachSize(t *testing.T) {
	need := []int{0, 1, 2, 2, 3, 3, 4, 4}
	for n := 1; n <= 7; n++ {
		l := listOf(all)[:n]
		for k := range n + 1 {
			if got := conf.Majority(l, l[:k]); got != (k >= need[n]) {
				t.Errorf("P12.1: Majority: %d of %d: %t", k, n, got)
			}
		}
	}
}

func TestMajorityOfServersInAnyOrder(t *testing.T) {
	for _, l := range [][]int{{3, 1, 2}, {7, 5, 6}, {2, 6, 4}} {
		if !conf.Majority(l, l[:2]) || !conf.Majority(l, l[1:]) || conf.Majority(l, l[:1]) || conf.Majority(l, l[2:]) {
			t.Errorf("P12.1: Majority of %v", l)
		}
	}
}

// P12.1: Middle

// middleOf answers what Middle must of a set: of all numbers that its servers have the greatest one that more than half have at least.
func middleOf(set int, at []int64) int64 {
	var has []int64
	for _, id := range listOf(set) {
		n := int64(0)
		if id < len(at) {
			n = at[id]
		}
		has = append(has, n)
	}
	var good []int64
	for _, n := range has {
		count := 0
		for _, other := range has {
			if other >= n {
				count++
			}
		}
		if 2*count > len(has) {
			good = append(good, n)
		}
	}
	if len(good) == 0 {
		return 0
	}
	return slices.Max(good)
}

func checkMiddle(t *testing.T, set int, at []int64) {
	t.Helper()
	if got, want := conf.Middle(listOf(set), at), middleOf(set, at); got != want {
		t.Errorf("P12.1: Middle(%v, %v): %d, not %d", listOf(set), at, got, want)
	}
}

// numbers answers lists of what servers may have; of each each shorter one, too.
func numbers() [][]int64 {
	whole := [][]int64{
		{99, 1, 2, 3, 4, 5, 6, 7, 98, 97},
		{99, 7, 6, 5, 4, 3, 2, 1, 98},
		{99, 4, 4, 4, 4, 4, 4, 4, 98},
		{99, 5, 3, 9, 9, 1, 0, 3, 98},
		{99, 0, 9, 0, 9, 0, 9, 0, 98},
		{-99, -1, -2, -3, -4, -5, -6, -7, -98},
		{99, -7, 3, -2, 0, 5, -1, 4, 98},
		{0, math.MaxInt64, math.MinInt64, math.MaxInt64 - 1, math.MinInt64 + 1, 1 << 40, -1 << 40, math.MaxInt64, 0},
		{math.MaxInt64, 0, 0, 0, 0, 0, 0, 0, math.MaxInt64},
		{1 << 50, 1 << 40, 1<<40 - 1, 1 << 33, 1<<33 + 1, 1 << 32, 1<<32 + 1, 1, 1 << 50},
	}
	var l [][]int64
	for _, at := range whole {
		for n := range len(at) + 1 {
			l = append(l, at[:n])
		}
	}
	return l
}

func TestMiddle(t *testing.T) {
	for _, set := range sets() {
		for _, at := range numbers() {
			checkMiddle(t, set, at)
		}
	}
}

func TestMiddleOfAllSmallNumbers(t *testing.T) {
	for _, n := range []int{1, 2, 3, 4, 5, 6, 7} {
		each(n, []int{-1, 0, 1, 2}, func(l []int) {
			at := []int64{9}
			for _, has := range l {
				at = append(at, int64(has))
			}
			for _, set := range []int{all, 0x7e, 0x2a, 0xd0} {
				checkMiddle(t, set, at)
			}
		})
	}
}

func TestMiddleOfKnownLists(t *testing.T) {
	at := []int64{99, 10, 20, 30, 40, 50, 60, 70}
	for s, want := range map[string]int64{"1": 10, "7": 70, "12": 10, "67": 60, "123": 20, "147": 40, "1234": 20, "12345": 30, "123456": 30, "1234567": 40} {
		l, _ := conf.Decode(s)
		if got := conf.Middle(l, at); got != want {
			t.Errorf("P12.1: Middle(%v, %v): %d, not %d", l, at, got, want)
		}
	}
	for s, want := range map[string]int64{"4": 40, "5": 0, "45": 0, "126": 10, "347": 30, "456": 0, "567": 0} {
		l, _ := conf.Decode(s)
		if got := conf.Middle(l, at[:5]); got != want {
			t.Errorf("P12.1: Middle(%v, %v): %d, not %d", l, at[:5], got, want)
		}
	}
}

func TestMiddleOfListsThatMayNotBe(t *testing.T) {
	for _, l := range badLists() {
		for _, at := range numbers() {
			if got := conf.Middle(l, at); got != 0 {
				t.Errorf("P12.1: Middle(%v, %v): %d", l, at, got)
			}
		}
	}
}

// Of a majority that agreed and of a majority of one change more, one server at least is in both.
func TestMajoritiesOfNearListsMeet(t *testing.T) {
	for _, a := range sets() {
		for _, b := range sets() {
			if !conf.Near(listOf(a), listOf(b)) {
				continue
			}
			for _, yes := range sets() {
				if conf.Majority(listOf(a), listOf(yes)) && conf.Majority(listOf(b), listOf(all&^yes)) {
					t.Errorf("P12.1: %v and %v: the majorities of %v and of all others", listOf(a), listOf(b), listOf(yes))
				}
			}
		}
	}
}

// P0.1, P0.3, P0.4, P0.5

// longLists answers lists that are much longer than the servers are many.
func longLists() [][]int {
	const n = 1 << 20
	rising, falling := make([]int, n), make([]int, n)
	for i := range n {
		rising[i], falling[i] = i+1, n-i
	}
	return [][]int{rising, falling, make([]int, n), slices.Repeat([]int{1, 2, 3, 4, 5, 6, 7}, n/7), slices.Repeat([]int{7}, n)}
}

func TestLongLists(t *testing.T) {
	at := slices.Repeat([]int64{5, 4, 3}, 1<<20)
	for _, l := range longLists() {
		name := short(l[:10])
		if conf.May(l) || conf.Encode(l) != "" {
			t.Errorf("P0.1: the long list %s may be", name)
		}
		more, ok := conf.Add(l, 7)
		checkList(t, "Add of a long list", more, ok, nil)
		less, ok := conf.Remove(l, 7)
		checkList(t, "Remove of a long list", less, ok, nil)
		if conf.Near(l, l) || conf.Near(l, []int{1}) || conf.Near([]int{1}, l) || conf.Middle(l, at) != 0 {
			t.Errorf("P0.1: the long list %s may be", name)
		}
		if conf.Has(l, -1) || conf.Has(l, 1<<20+1) || conf.Has(l, 7) == (l[0] == 0) {
			t.Errorf("P0.1: Has of the long list %s", name)
		}
		if got := conf.Majority([]int{1, 7}, l); got != (l[0] != 0 && l[0] != 7) {
			t.Errorf("P0.1: Majority([1 7], the long list %s): %t", name, got)
		}
		if !conf.Majority(l, l) || conf.Majority(l, []int{-1}) || conf.Majority(l, nil) {
			t.Errorf("P0.1: Majority of the long list %s", name)
		}
	}
	if got := conf.Middle([]int{1, 2, 3}, at); got != 4 {
		t.Errorf("P0.1: Middle of long numbers: %d", got)
	}
	for _, c := range []string{"1", "0", "1234567", "\xff"} {
		checkDecode(t, strings.Repeat(c, 1<<20), nil)
	}
}

// roomy answers l in memory with spare room in which 77 stands.
func roomy(l []int) []int {
	whole := append(slices.Clone(l), 77, 77, 77)
	return whole[:len(l)]
}

func TestArgumentsAreNotChanged(t *testing.T) {
	lists := append(badLists(), []int{9, 3, 1}, []int{7, 2})
	for _, set := range sets() {
		lists = append(lists, listOf(set))
	}
	for _, l := range lists {
		a, b := roomy(l), roomy(l)
		at := []int64{9, 7, 5, 6, 1, 2, 4, 3, 77, 77}
		for id := range 9 {
			conf.Has(a, id)
			conf.Add(a, id)
			conf.Remove(a, id)
		}
		conf.May(a)
		conf.Encode(a)
		conf.Near(a, b)
		conf.Majority([]int{1, 2, 3}, a)
		conf.Majority(a, b)
		conf.Middle(a, at[:5])
		want := append(slices.Clone(l), 77, 77, 77)
		if !slices.Equal(a[:len(want)], want) || !slices.Equal(b[:len(want)], want) {
			t.Errorf("P0.3: a call changes its argument %v, or its spare room: %v, %v", l, a[:len(want)], b[:len(want)])
		}
		if !slices.Equal(at, []int64{9, 7, 5, 6, 1, 2, 4, 3, 77, 77}) {
			t.Errorf("P0.3: Middle changes its numbers, or their spare room: %v", at)
		}
	}
}

// checkNewMemory holds a second answer of ask, and what ask was given, against what is written into the first.
func checkNewMemory(t *testing.T, call string, l []int, ask func() []int) {
	t.Helper()
	was := slices.Clone(l)
	first, second := ask(), ask()
	want := slices.Clone(second)
	room := first[:cap(first)]
	for i := range room {
		room[i] = 99
	}
	if !slices.Equal(l, was) || !slices.Equal(second, want) || !slices.Equal(ask(), want) {
		t.Errorf("P0.3: %s answers shared memory", call)
	}
}

func TestAnswersAreNewMemory(t *testing.T) {
	for _, set := range sets()[1:] {
		l := roomy(listOf(set))
		whole := l[:len(l)+3]
		checkNewMemory(t, "Decode", whole, func() []int { d, _ := conf.Decode(digitsOf(set)); return d })
		for id := 1; id <= 7; id++ {
			checkNewMemory(t, "Add", whole, func() []int { a, _ := conf.Add(l, id); return a })
			checkNewMemory(t, "Remove", whole, func() []int { r, _ := conf.Remove(l, id); return r })
		}
	}
}

func TestNilIsEmpty(t *testing.T) {
	for _, none := range [][]int{nil, {}, []int{1, 2, 3}[:0]} {
		if conf.May(none) || conf.Encode(none) != "" || conf.Has(none, 0) || conf.Has(none, 1) {
			t.Error("P0.4: none may be")
		}
		a, ok := conf.Add(none, 1)
		checkList(t, "Add(none, 1)", a, ok, nil)
		r, ok := conf.Remove(none, 1)
		checkList(t, "Remove(none, 1)", r, ok, nil)
		for _, other := range [][]int{nil, {}, {1}, {1, 2}} {
			if conf.Near(none, other) || conf.Near(other, none) {
				t.Errorf("P0.4: none is Near %v", other)
			}
			if conf.Majority(none, other) || conf.Majority(other, none) {
				t.Errorf("P0.4: Majority of none, or of none of %v", other)
			}
		}
	}
	for _, at := range [][]int64{nil, {}, []int64{5, 6, 7}[:0]} {
		if got := conf.Middle([]int{1}, at); got != 0 {
			t.Errorf("P0.4: Middle of no numbers: %d", got)
		}
	}
}

func TestSameAnswerAgain(t *testing.T) {
	at := []int64{9, 3, 8, 1, 7, 2, 6, 5}
	tell := func(set int) string {
		l := listOf(set)
		a, added := conf.Add(l, 4)
		r, removed := conf.Remove(l, 4)
		d, decoded := conf.Decode(digitsOf(set))
		return fmt.Sprint(conf.May(l), conf.Encode(l), d, decoded, conf.Has(l, 4), a, added, r, removed,
			conf.Near(l, []int{2, 4}), conf.Majority(l, []int{4, 5, 6}), conf.Middle(l, at))
	}
	var first []string
	for _, set := range sets() {
		first = append(first, tell(set))
	}
	for i, set := range slices.Backward(sets()) {
		if got := tell(set); got != first[i] {
			t.Errorf("P0.5: %v: %s, and ahead of other calls %s", listOf(set), got, first[i])
		}
	}
}
