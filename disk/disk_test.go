package disk_test

import (
	"bytes"
	"fmt"
	"maps"
	"math"
	"slices"
	"strings"
	"testing"
	"unsafe"

	"packhorse/api"
	"packhorse/disk"
)

const full = 1 << 20

// part is a file of a model: what lasts of it, and what is loose. A file that was neither synced nor swapped is weak.
type part struct {
	firm, loose string
	weak        bool
}

// model is a disk, as the document tells it.
type model struct {
	parts map[string]part
	calls int
}

func newModel() *model { return &model{parts: map[string]part{}} }

// goodName asks each letter of an alphabet, so that it shares no rule with the program.
func goodName(name string) bool {
	return name != "" && len(name) < 11 && strings.Trim(name, "abcdefghijklmnopqrstuvwxyz") == ""
}

func (m *model) append(name, b string) api.Errno {
	m.calls++
	p, ok := m.parts[name]
	switch {
	case !goodName(name):
		return api.ErrForm
	case len(p.firm)+len(p.loose)+len(b) > full:
		return api.ErrFull
	}
	p.loose += b
	p.weak = p.weak || !ok
	m.parts[name] = p
	return api.OK
}

func (m *model) sync(name string) api.Errno {
	m.calls++
	p, ok := m.parts[name]
	if !ok {
		return api.ErrNone
	}
	m.parts[name] = part{firm: p.firm + p.loose}
	return api.OK
}

func (m *model) swap(name, b string) api.Errno {
	m.calls++
	switch {
	case !goodName(name):
		return api.ErrForm
	case len(b) > full:
		return api.ErrFull
	}
	m.parts[name] = part{firm: b}
	return api.OK
}

func (m *model) crash(n int) *model {
	left := newModel()
	for name, p := range m.parts {
		stays := ""
		if n >= 0 {
			stays = p.loose[:n%(len(p.loose)+1)]
		}
		if b := p.firm + stays; b != "" || !p.weak {
			left.parts[name] = part{firm: b}
		}
	}
	return left
}

// brief tells b, but no more than a line of it.
func brief(b []byte) string { return fmt.Sprintf("%.60q of %d bytes", b, len(b)) }

func checkErr(t *testing.T, what string, got, want api.Errno) {
	t.Helper()
	if got != want {
		t.Errorf("P9.1: %s: %d, not %d", what, got, want)
	}
}

func checkRead(t *testing.T, d *disk.Disk, name, want string) {
	t.Helper()
	if b, err := d.Read(name); string(b) != want || err != api.OK {
		t.Errorf("P9.1: Read(%q): %s, %d, not %s", name, brief(b), err, brief([]byte(want)))
	}
}

func checkNone(t *testing.T, d *disk.Disk, name string) {
	t.Helper()
	if b, err := d.Read(name); len(b) != 0 || err != api.ErrNone {
		t.Errorf("P9.1: Read(%q): %s, %d, and there is no such file", name, brief(b), err)
	}
	if n := d.Loose(name); n != 0 {
		t.Errorf("P9.1: Loose(%q): %d, and there is no such file", name, n)
	}
}

// check holds all that a disk tells against a model.
func check(t *testing.T, d *disk.Disk, m *model) {
	t.Helper()
	names := slices.Sorted(maps.Keys(m.parts))
	if got := d.Names(); !slices.Equal(got, names) {
		t.Errorf("P9.1: Names: %q, not %q", got, names)
	}
	for _, name := range names {
		p := m.parts[name]
		checkRead(t, d, name, p.firm+p.loose)
		if n := d.Loose(name); n != len(p.loose) {
			t.Errorf("P9.1: Loose(%q): %d, not %d", name, n, len(p.loose))
		}
	}
	if n := d.Calls(); n != m.calls {
		t.Errorf("P9.1: Calls: %d, not %d", n, m.calls)
	}
}

// checkCrash holds what a crash leaves against a model, and what a crash leaves of that again.
func checkCrash(t *testing.T, d *disk.Disk, m *model, n int) {
	t.Helper()
	c, left := d.Crash(n), m.crash(n)
	check(t, c, left)
	check(t, c.Crash(-1), left)
	check(t, c.Crash(1), left)
	check(t, d, m)
	if t.Failed() {
		t.Fatalf("P9.2: behind Crash(%d)", n)
	}
}

// both is a disk and its model, that are told the same.
type both struct {
	t *testing.T
	d *disk.Disk
	m *model
}

func newBoth(t *testing.T) both { return both{t, disk.New(), newModel()} }

func (x both) append(name, b string) {
	x.t.Helper()
	checkErr(x.t, fmt.Sprintf("Append(%.20q, %d bytes)", name, len(b)), x.d.Append(name, []byte(b)), x.m.append(name, b))
}

func (x both) sync(name string) {
	x.t.Helper()
	checkErr(x.t, fmt.Sprintf("Sync(%.20q)", name), x.d.Sync(name), x.m.sync(name))
}

func (x both) swap(name, b string) {
	x.t.Helper()
	checkErr(x.t, fmt.Sprintf("Swap(%.20q, %d bytes)", name, len(b)), x.d.Swap(name, []byte(b)), x.m.swap(name, b))
}

func (x both) check() {
	x.t.Helper()
	check(x.t, x.d, x.m)
}

func (x both) crash(n int) {
	x.t.Helper()
	checkCrash(x.t, x.d, x.m, n)
}

// P9.1: names

func TestGoodNames(t *testing.T) {
	x := newBoth(t)
	for c := 'a'; c <= 'z'; c++ {
		for n := 1; n <= 10; n++ {
			name := strings.Repeat(string(c), n)
			checkErr(t, name, x.d.Append(name, []byte(name)), api.OK)
			x.m.append(name, name)
			other := strings.Repeat("q", n-1) + string(c)
			x.swap(other, "s")
			x.sync(name)
		}
	}
	x.check()
}

// badNames are names that no file may have.
func badNames() []string {
	l := []string{
		"", "abcdefghijk", "aaaaaaaaaaaaaaaaaaaa", "A", "Z", "aB", "Ba", "a1", "0", "a b", " a", "a ", "a.b", "a/b", "..", "_", "-",
		"é", "aé", "ß", "ｋ", "ſ", "\u212a", "\u0430", "a\u0301", "\x00", "a\x00", "\x00a", "\xff", "a\xffb", "a\xc3", "\ufffd", "a\n", "\na",
		"аааааааааа", "éééééé", strings.Repeat("a", 266), strings.Repeat("a", 1<<16+1), strings.Repeat("a", 1<<20),
	}
	for c := range 256 {
		if c < 'a' || c > 'z' {
			b := string([]byte{byte(c)})
			l = append(l, b, "a"+b, b+"z", "abcdefghi"+b, b+"bcdefghij", "abcd"+b+"fghij")
		}
	}
	return l
}

func TestBadNames(t *testing.T) {
	x := newBoth(t)
	x.append("a", "kept")
	calls := 1
	for _, name := range badNames() {
		for _, b := range []string{"", "b", strings.Repeat("b", full+1)} {
			what := fmt.Sprintf("%.20q of %d bytes", name, len(name))
			checkErr(t, "Append of "+what, x.d.Append(name, []byte(b)), api.ErrForm)
			checkErr(t, "Swap of "+what, x.d.Swap(name, []byte(b)), api.ErrForm)
			calls += 2
		}
		checkErr(t, "Sync of a bad name", x.d.Sync(name), api.ErrNone)
		calls++
		checkNone(t, x.d, name)
	}
	x.m.calls = calls
	x.check()
	x.crash(1)
}

func TestNamesRise(t *testing.T) {
	x := newBoth(t)
	x.check()
	for _, name := range []string{"z", "b", "ab", "a", "aa", "zz", "za", "abcdefghij", "abcdefghi", "zzzzzzzzzz", "aaaaaaaaaa", "m", "az", "ba"} {
		x.append(name, name)
		x.check()
	}
	want := []string{"a", "aa", "aaaaaaaaaa", "ab", "abcdefghi", "abcdefghij", "az", "b", "ba", "m", "z", "za", "zz", "zzzzzzzzzz"}
	for range 20 {
		if got := x.d.Names(); !slices.Equal(got, want) {
			t.Errorf("P9.1: Names: %q", got)
		}
		x.crash(100)
	}
}

// P9.1: Append, Sync, Swap, Read, Loose, Calls

func TestAppendStandsAtTheEnd(t *testing.T) {
	d := disk.New()
	checkNone(t, d, "a")
	checkErr(t, "Append", d.Append("a", []byte("pack")), api.OK)
	checkRead(t, d, "a", "pack")
	checkErr(t, "Append", d.Append("a", nil), api.OK)
	checkRead(t, d, "a", "pack")
	checkErr(t, "Append", d.Append("a", []byte("\x00horse\xff")), api.OK)
	checkRead(t, d, "a", "pack\x00horse\xff")
	if n := d.Loose("a"); n != 11 {
		t.Errorf("P9.1: Loose: %d, not 11", n)
	}
	checkErr(t, "Sync", d.Sync("a"), api.OK)
	checkErr(t, "Append", d.Append("a", []byte("s")), api.OK)
	checkRead(t, d, "a", "pack\x00horse\xffs")
	if n := d.Loose("a"); n != 1 {
		t.Errorf("P9.1: Loose: %d, not 1", n)
	}
	checkNone(t, d, "aa")
}

func TestAppendOfNothingMakesAFile(t *testing.T) {
	for _, b := range [][]byte{nil, {}} {
		d := disk.New()
		checkErr(t, "Append of nothing", d.Append("a", b), api.OK)
		checkRead(t, d, "a", "")
		if got := d.Names(); !slices.Equal(got, []string{"a"}) || d.Loose("a") != 0 {
			t.Errorf("P9.1: Names: %q, Loose: %d", got, d.Loose("a"))
		}
		for _, n := range []int{-1, 0, 1, 2} {
			if got := d.Crash(n).Names(); len(got) != 0 {
				t.Errorf("P9.1: an empty file that was not synced lasts: %q", got)
			}
		}
	}
}

// An empty file lasts once it was synced or swapped, whatever is appended then.
func TestEmptyFilesThatLast(t *testing.T) {
	for what, lay := range map[string]func(d *disk.Disk){
		"swapped":            func(d *disk.Disk) { d.Swap("a", nil) },
		"synced":             func(d *disk.Disk) { d.Append("a", nil); d.Sync("a") },
		"swapped, was full":  func(d *disk.Disk) { d.Append("a", []byte("abc")); d.Sync("a"); d.Swap("a", []byte{}) },
		"swapped, was loose": func(d *disk.Disk) { d.Append("a", []byte("abc")); d.Swap("a", nil) },
		"synced twice":       func(d *disk.Disk) { d.Append("a", nil); d.Sync("a"); d.Append("a", nil); d.Sync("a") },
	} {
		d := disk.New()
		lay(d)
		for _, n := range []int{-1, 0, 1} {
			checkRead(t, d.Crash(n), "a", "")
			checkRead(t, d.Crash(n).Crash(n), "a", "")
		}
		d.Append("a", []byte("xy"))
		checkRead(t, d, "a", "xy")
		for n, want := range map[int]string{-1: "", 0: "", 1: "x", 2: "xy", 3: "", 4: "x"} {
			checkRead(t, d.Crash(n), "a", want)
		}
		if t.Failed() {
			t.Fatalf("P9.1: an empty file that was %s", what)
		}
	}
}

func TestSync(t *testing.T) {
	x := newBoth(t)
	checkErr(t, "Sync of no file", x.d.Sync("a"), api.ErrNone)
	x.m.sync("a")
	checkNone(t, x.d, "a")
	x.append("a", "one")
	x.append("b", "two")
	checkErr(t, "Sync", x.d.Sync("a"), api.OK)
	x.m.sync("a")
	if x.d.Loose("a") != 0 || x.d.Loose("b") != 3 {
		t.Errorf("P9.1: Loose behind Sync of a: %d, %d", x.d.Loose("a"), x.d.Loose("b"))
	}
	x.check()
	x.sync("a")
	x.sync("c")
	x.check()
	for n := -2; n < 9; n++ {
		x.crash(n)
	}
}

func TestSwap(t *testing.T) {
	x := newBoth(t)
	x.swap("a", "first")
	checkRead(t, x.d, "a", "first")
	x.append("a", "loose")
	x.swap("a", "x")
	checkRead(t, x.d, "a", "x")
	if n := x.d.Loose("a"); n != 0 {
		t.Errorf("P9.1: Loose behind Swap: %d", n)
	}
	checkRead(t, x.d.Crash(-1), "a", "x")
	x.append("b", "only loose")
	x.swap("b", "longer than what was there")
	x.append("b", "er")
	x.check()
	for n := -2; n < 9; n++ {
		x.crash(n)
	}
}

func TestFull(t *testing.T) {
	most := strings.Repeat("m", full)
	x := newBoth(t)
	for _, b := range []string{most + "x", most + most} {
		checkErr(t, "Append of too much", x.d.Append("a", []byte(b)), api.ErrFull)
		checkNone(t, x.d, "a")
		checkErr(t, "Swap of too much", x.d.Swap("a", []byte(b)), api.ErrFull)
		checkNone(t, x.d, "a")
	}
	x.m.calls = 4
	x.check()
	checkErr(t, "Append of all that may be", x.d.Append("a", []byte(most)), api.OK)
	checkErr(t, "Swap of all that may be", x.d.Swap("b", []byte(most)), api.OK)
	x.m.append("a", most)
	x.m.swap("b", most)
	x.append("a", "x")
	x.append("a", "")
	x.append("b", "x")
	x.check()
	x.crash(full)
	x.crash(full + 1)
	x.sync("a")
	x.append("a", "x")
	x.swap("a", most+"x")
	x.check()
	x.swap("a", "short")
	x.append("a", most[5:]+"x")
	x.check()
	x.append("a", most[5:])
	x.append("a", "x")
	x.check()
}

// What is refused changes nothing: what is loose stays loose, what lasts lasts.
func TestErrorsChangeNothing(t *testing.T) {
	much := strings.Repeat("m", full)
	x := newBoth(t)
	x.append("a", "one")
	x.sync("a")
	x.append("a", "two")
	x.append("b", "three")
	for range 3 {
		x.append("a", much)
		x.append("c", much+"x")
		x.swap("a", much+"x")
		x.swap("b", much+"x")
		x.swap("c", much+"x")
		x.sync("c")
		x.append("A", "x")
		x.swap("", "x")
		x.check()
		for n := -1; n < 8; n++ {
			x.crash(n)
		}
	}
}

// The name's error stands ahead of the others.
func TestErrorsInOrder(t *testing.T) {
	much := make([]byte, full+1)
	for _, name := range []string{"", "A", "abcdefghijk"} {
		d := disk.New()
		checkErr(t, "Append", d.Append(name, much), api.ErrForm)
		checkErr(t, "Swap", d.Swap(name, much), api.ErrForm)
	}
}

func TestCalls(t *testing.T) {
	d := disk.New()
	want := 0
	count := func(n int) {
		t.Helper()
		want += n
		if got := d.Calls(); got != want {
			t.Errorf("P9.1: Calls: %d, not %d", got, want)
		}
	}
	count(0)
	d.Append("a", []byte("x"))
	count(1)
	d.Sync("a")
	count(1)
	d.Swap("a", nil)
	count(1)
	d.Append("a", nil)
	count(1)
	d.Append("A", nil)
	d.Append("a", make([]byte, full+1))
	d.Sync("b")
	d.Swap("A", nil)
	d.Swap("b", make([]byte, full+1))
	count(5)
	d.Read("a")
	d.Read("b")
	d.Names()
	d.Loose("a")
	d.Calls()
	d.Crash(3).Append("a", nil)
	count(0)
	if n := d.Crash(0).Calls(); n != 0 {
		t.Errorf("P9.2: Calls behind a crash: %d", n)
	}
}

// P9.2: Crash

func TestCrashOfEachNumber(t *testing.T) {
	x := newBoth(t)
	letters := "abcdefghijklmnopqrstuvwxyz"
	for i := range 13 {
		x.append(letters[i:i+1], strings.Repeat("x", i%3)+letters[:i])
		x.sync(letters[i : i+1])
		x.append(letters[i:i+1], letters[26-i:])
		x.append(letters[13+i:14+i], letters[:i])
	}
	x.swap("swapped", "")
	x.append("swapped", "12345")
	for n := -30; n < 400; n++ {
		x.crash(n)
	}
	for _, n := range []int{math.MinInt, math.MinInt + 1, math.MinInt32, -1 << 32, 1<<31 - 1, 1 << 31, 1 << 32, 1<<32 + 1, math.MaxInt - 1, math.MaxInt} {
		x.crash(n)
	}
}

func TestCrashTakesABeginning(t *testing.T) {
	d := disk.New()
	d.Append("a", []byte("123"))
	d.Sync("a")
	d.Append("a", []byte("45"))
	d.Append("a", []byte("6"))
	d.Append("b", []byte("7"))
	d.Append("e", nil)
	for n, want := range map[int]string{
		math.MinInt: "123 -", -3: "123 -", -1: "123 -", 0: "123 -", 1: "1234 7", 2: "12345 -", 3: "123456 7", 4: "123 -", 5: "1234 7",
		// The greatest number is 7 mod 8.
		math.MaxInt: "123456 7", math.MaxInt - 1: "12345 -",
	} {
		c := d.Crash(n)
		a, _ := c.Read("a")
		b, err := c.Read("b")
		if err == api.ErrNone {
			b = []byte("-")
		}
		if got := string(a) + " " + string(b); got != want {
			t.Errorf("P9.2: Crash(%d): %s, not %s", n, got, want)
		}
		if len(c.Names()) != 1+len(strings.Trim(want[len(want)-1:], "-")) {
			t.Errorf("P9.2: Crash(%d): %q", n, c.Names())
		}
		if c.Calls() != 0 || c.Loose("a") != 0 || c.Loose("b") != 0 {
			t.Errorf("P9.2: Crash(%d): %d calls, %d and %d loose", n, c.Calls(), c.Loose("a"), c.Loose("b"))
		}
	}
}

// What a crash has left of a file lasts from then on.
func TestWhatACrashLeavesLasts(t *testing.T) {
	x := newBoth(t)
	x.append("a", "abc")
	x.append("b", "")
	x = both{t, x.d.Crash(2), x.m.crash(2)}
	x.check()
	checkRead(t, x.d, "a", "ab")
	x.append("a", "xyz")
	x.append("b", "new")
	for n := -1; n < 6; n++ {
		x.crash(n)
	}
	checkRead(t, x.d.Crash(0), "a", "ab")
	x.sync("a")
	x.swap("b", "")
	x.crash(0)
}

func TestEachGoesItsOwnWay(t *testing.T) {
	x := newBoth(t)
	x.append("a", "12345678")
	x.sync("a")
	x.append("a", "90")
	x.append("b", "loose")
	for n := range 12 {
		y := both{t, x.d.Crash(n), x.m.crash(n)}
		z := both{t, x.d.Crash(n), x.m.crash(n)}
		y.append("a", "other")
		y.swap("b", "gone")
		y.append("c", "new")
		z.append("a", "still")
		z.sync("a")
		x.check()
		y.check()
		z.check()
		x.append("a", "more")
		x.swap("d", "d")
		x.check()
		y.check()
		z.check()
	}
}

func TestAsTheModel(t *testing.T) {
	seed := uint32(1)
	pick := func(n int) int {
		seed = seed*1664525 + 1013904223
		return int(seed>>8) % n
	}
	names := []string{"a", "b", "state", "queue", "abcdefghij", "zz", "A", "", "abcdefghijk", "none"}
	sizes := []int{0, 0, 1, 2, 3, 5, 8, 30}
	for range 600 {
		x := newBoth(t)
		for k := range 60 {
			name, b := names[pick(len(names)-1)], strings.Repeat(string(rune('0'+k)), sizes[pick(len(sizes))])
			switch pick(10) {
			case 0, 1, 2, 3, 4:
				x.append(name, b)
			case 5, 6:
				x.sync(name)
			case 7:
				x.swap(name, b)
			case 8:
				x.crash(pick(80) - 5)
			case 9:
				if n := pick(80) - 5; pick(4) == 0 {
					x = both{t, x.d.Crash(n), x.m.crash(n)}
				}
			}
			x.check()
			checkNone(t, x.d, "none")
		}
		if t.Failed() {
			return
		}
	}
}

func TestNilDisk(t *testing.T) {
	var d *disk.Disk
	for _, name := range []string{"a", "", "A", "abcdefghijk"} {
		for _, b := range [][]byte{nil, {1}, make([]byte, full+1)} {
			checkErr(t, "Append to no disk", d.Append(name, b), api.ErrNone)
			checkErr(t, "Swap of no disk", d.Swap(name, b), api.ErrNone)
		}
		checkErr(t, "Sync of no disk", d.Sync(name), api.ErrNone)
		checkNone(t, d, name)
	}
	if len(d.Names()) != 0 || d.Calls() != 0 {
		t.Errorf("P9.2: a nil disk: %q, %d", d.Names(), d.Calls())
	}
	for _, n := range []int{math.MinInt, -1, 0, 1, math.MaxInt} {
		if d.Crash(n) != nil {
			t.Errorf("P9.2: Crash(%d) of a nil disk is a disk", n)
		}
	}
}

// P0.1, P0.3, P0.4, P0.5

func TestNewIsEmpty(t *testing.T) {
	if disk.New() == nil || disk.New().Crash(0) == nil || disk.New() == disk.New() {
		t.Fatal("P9.1: New answers no disk of its own")
	}
	for _, d := range []*disk.Disk{disk.New(), new(disk.Disk), disk.New().Crash(5), new(disk.Disk).Crash(-5)} {
		x := both{t, d, newModel()}
		x.check()
		x.sync("a")
		x.crash(1)
		x.append("a", "x")
		x.check()
	}
	x := both{t, new(disk.Disk), newModel()}
	x.swap("a", "x")
	x.check()
}

func TestManyFilesAndLongOnes(t *testing.T) {
	x := newBoth(t)
	for i := range 20000 {
		name := string([]byte{'a' + byte(i%26), 'a' + byte(i/26%26), 'a' + byte(i/676)})
		x.append(name, "x")
		if i%3 == 0 {
			x.sync(name)
		}
	}
	x.check()
	x.crash(0)
	x.crash(1)
	d := disk.New()
	for i := range full {
		if err := d.Append("a", []byte{byte(i)}); err != api.OK {
			t.Fatalf("P9.1: Append of the byte %d: %d", i, err)
		}
	}
	checkErr(t, "Append to a full file", d.Append("a", []byte{1}), api.ErrFull)
	b, _ := d.Read("a")
	for i, c := range b {
		if c != byte(i) {
			t.Fatalf("P9.1: the byte %d is %d", i, c)
		}
	}
	if n := d.Crash(full - 1).Loose("a"); n != 0 || len(b) != full || d.Loose("a") != full {
		t.Errorf("P9.1: %d bytes, %d loose", len(b), d.Loose("a"))
	}
	if err := disk.New().Append("a", make([]byte, 1<<28)); err != api.ErrFull {
		t.Errorf("P9.1: Append of very much: %d", err)
	}
}

// spoil writes into all of b, its spare room too.
func spoil(b []byte) {
	room := b[:cap(b)]
	for i := range room {
		room[i] ^= 0x55
	}
}

func TestArgumentsAreNeitherChangedNorKept(t *testing.T) {
	for _, n := range []int{0, 1, 7, 8, 100, 5000} {
		memory := bytes.Repeat([]byte("m"), 2*n+64)
		b := memory[:n]
		d := disk.New()
		d.Append("a", b)
		d.Append("a", b)
		d.Swap("b", b)
		d.Append("b", []byte("more"))
		d.Swap("c", b)
		d.Sync("a")
		d.Append("a", []byte("again"))
		if !bytes.Equal(memory, bytes.Repeat([]byte("m"), 2*n+64)) {
			t.Fatalf("P0.3: of %d bytes a call writes into its argument's memory", n)
		}
		spoil(b)
		want := strings.Repeat("m", n)
		checkRead(t, d, "a", want+want+"again")
		checkRead(t, d, "b", want+"more")
		checkRead(t, d, "c", want)
		checkRead(t, d.Crash(0), "c", want)
	}
}

func TestAnswersAreNewMemory(t *testing.T) {
	for _, n := range []int{0, 1, 7, 8, 100, 5000} {
		x := newBoth(t)
		x.append("a", strings.Repeat("a", n))
		x.append("a", "b")
		x.swap("b", strings.Repeat("b", n))
		x.append("c", strings.Repeat("c", n+1))
		y := both{t, x.d.Crash(n + 1), x.m.crash(n + 1)}
		first, _ := x.d.Read("a")
		second, _ := x.d.Read("a")
		crashed, _ := y.d.Read("a")
		spoil(first)
		if want := strings.Repeat("a", n) + "b"; string(second) != want || string(crashed) != want {
			t.Errorf("P0.3: Read of %d bytes answers shared memory", n)
		}
		for _, d := range []*disk.Disk{x.d, y.d} {
			for _, name := range d.Names() {
				b, _ := d.Read(name)
				spoil(b)
			}
			names := d.Names()
			clear(names[:cap(names)])
		}
		x.check()
		y.check()
		// The spare room of what was answered is not that of the file either.
		x.append("a", "c")
		spoil(second)
		x.check()
		y.check()
	}
}

func TestListsOfNamesShareNoMemory(t *testing.T) {
	name := string([]byte("abc"))
	d := disk.New()
	d.Append(name, nil)
	d.Swap(name, nil)
	texts := []string{name, d.Names()[0], d.Names()[0], d.Crash(0).Names()[0]}
	for i, x := range texts {
		for _, y := range texts[:i] {
			if unsafe.StringData(x) == unsafe.StringData(y) {
				t.Errorf("P0.3: two texts share memory: %q", x)
			}
		}
	}
}

// Texts can't be written into, so their memory is turned beneath them: a disk that kept them would lose its files.
func TestNamesAreNotKept(t *testing.T) {
	memory := []byte("abcdefgh")
	name := func(i int) string { return unsafe.String(&memory[i], 2) }
	d := disk.New()
	d.Append(name(0), []byte("1"))
	d.Swap(name(2), []byte("2"))
	d.Append("ef", []byte("3"))
	d.Append(name(4), []byte("4"))
	d.Append("gh", []byte("5"))
	d.Sync(name(6))
	clear(memory)
	if got := d.Names(); !slices.Equal(got, []string{"ab", "cd", "ef", "gh"}) {
		t.Errorf("P0.3: Names: %q", got)
	}
	for name, want := range map[string]string{"ab": "1", "cd": "2", "ef": "34", "gh": "5"} {
		checkRead(t, d, name, want)
	}
}

func TestNilIsEmpty(t *testing.T) {
	for _, b := range [][]byte{nil, {}, []byte("spare")[:0]} {
		x := newBoth(t)
		checkErr(t, "Append of nothing", x.d.Append("a", b), x.m.append("a", ""))
		checkErr(t, "Swap of nothing", x.d.Swap("b", b), x.m.swap("b", ""))
		x.append("c", "x")
		checkErr(t, "Append of nothing", x.d.Append("c", b), x.m.append("c", ""))
		x.check()
		x.crash(1)
		x.crash(-1)
		checkErr(t, "Swap of nothing", x.d.Swap("c", b), x.m.swap("c", ""))
		x.check()
		checkErr(t, "Append of nothing", x.d.Append("", b), api.ErrForm)
		checkErr(t, "Swap of nothing", x.d.Swap("", b), api.ErrForm)
	}
}

func TestSameAnswerAgain(t *testing.T) {
	x := newBoth(t)
	x.append("a", "one")
	x.sync("a")
	x.append("a", "two")
	x.append("b", "three")
	other := disk.New()
	for n := range 10 {
		x.check()
		x.crash(n)
		other.Append("a", []byte("another disk's"))
		other.Swap("b", nil)
		other.Sync("a")
		x.check()
		x.crash(n)
	}
}
