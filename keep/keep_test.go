package keep_test

import (
	"bytes"
	"encoding/binary"
	"fmt"
	"hash/crc32"
	"math"
	"slices"
	"strings"
	"testing"
	"unsafe"

	"packhorse/api"
	"packhorse/disk"
	"packhorse/keep"
)

const (
	top  = 1 << 40
	full = 1 << 20
	most = 200
)

// mixed answers n bytes in which all values stand, in no plain order.
func mixed(n int) string {
	b := make([]byte, n)
	for i := range b {
		b[i] = byte(i*167 + i>>8*31 + 13)
	}
	return string(b)
}

// The file's bytes, as the chapters 2, 8 and 10 tell them.

func numbers(l ...int64) string {
	var b []byte
	for _, n := range l {
		b = binary.AppendVarint(b, n)
	}
	return string(b)
}

func text(s string) string { return numbers(int64(len(s))) + s }

func sealed(kind int, body string) string {
	head := binary.AppendVarint([]byte{byte(kind)}, int64(len(body)))
	sum := crc32.ChecksumIEEE(append(bytes.Clone(head), body...))
	return string(binary.BigEndian.AppendUint32(head, sum)) + body
}

func hardLine(h api.Hard) string { return sealed(1, numbers(h.Term, int64(h.Vote))) }

func entryLine(e api.Entry) string {
	return sealed(2, numbers(e.Index, e.Term, int64(e.Kind))+text(e.Data))
}

func entryLines(l []api.Entry) string {
	var b strings.Builder
	for _, e := range l {
		b.WriteString(entryLine(e))
	}
	return b.String()
}

func snapLines(s api.Snap) string {
	var b strings.Builder
	b.WriteString(sealed(3, numbers(s.Index, s.Term)+text(s.Conf)+numbers(int64(len(s.Data)))))
	for piece := range slices.Chunk([]byte(s.Data), 3000) {
		b.WriteString(sealed(4, string(piece)))
	}
	return b.String()
}

// wholeFile answers a file that was laid anew.
func wholeFile(s keep.State) string { return snapLines(s.S) + hardLine(s.H) + entryLines(s.Log) }

// entries answers entries one behind the other from first on, of those Terms.
func entries(first int64, terms ...int64) []api.Entry {
	var l []api.Entry
	for i, term := range terms {
		at := first + int64(i)
		l = append(l, api.Entry{Index: at, Term: term, Kind: 1 + i%3, Data: fmt.Sprint("e", at, ".", term)})
	}
	return l
}

// many answers n entries from first on with size bytes each.
func many(first int64, n, size int) []api.Entry {
	l := entries(first, slices.Repeat([]int64{7}, n)...)
	for i := range l {
		l[i].Data = strings.Repeat("x", size)
	}
	return l
}

// line is a record that was written: a Hard, or an entry.
type line struct {
	h    *api.Hard
	e    api.Entry
	size int
}

func lineOf(e api.Entry) line { return line{nil, e, len(entryLine(e))} }

// model is a file and what stands in it, as the document tells it: a snapshot, lines, and how many of them last.
type model struct {
	there bool
	base  api.Snap
	lines []line
	firm  int
	file  string
}

// played answers the state behind the first n lines.
func (m *model) played(n int) keep.State {
	s := keep.State{S: m.base}
	for _, x := range m.lines[:n] {
		if x.h != nil {
			s.H = *x.h
			continue
		}
		var l []api.Entry
		for _, e := range s.Log {
			if e.Index < x.e.Index {
				l = append(l, e)
			}
		}
		s.Log = append(l, x.e)
	}
	return s
}

func (m *model) state() keep.State { return m.played(len(m.lines)) }

// loose answers how many bytes do not last.
func (m *model) loose() int {
	n := 0
	for _, x := range m.lines[m.firm:] {
		n += x.size
	}
	return n
}

// crashed answers a model of what a crash leaves that leaves n loose bytes, and of what Open makes of that.
func (m *model) crashed(n int) *model {
	left := *m
	left.file = m.file[:len(m.file)-m.loose()]
	whole, ends := m.firm, 0
	for _, x := range m.lines[m.firm:] {
		if ends += x.size; ends > n {
			break
		}
		whole++
		left.file = m.file[:len(m.file)-m.loose()+ends]
	}
	left.lines = slices.Clone(m.lines[:whole])
	left.firm = whole
	return &left
}

// anew lays s as a whole file, that lasts.
func (m *model) anew(s keep.State) {
	h := s.H
	lines := []line{{h: &h, size: len(hardLine(h))}}
	for _, e := range s.Log {
		lines = append(lines, lineOf(e))
	}
	*m = model{there: true, base: s.S, lines: lines, firm: len(lines), file: wholeFile(s)}
}

// begin makes the file.
func (m *model) begin() {
	if !m.there {
		m.there, m.file = true, snapLines(api.Snap{})
	}
}

func (m *model) add(b string, l ...line) api.Errno {
	m.begin()
	if len(m.file)+len(b) > full {
		m.anew(m.state())
	}
	if len(m.file)+len(b) > full {
		return api.ErrFull
	}
	m.file += b
	m.lines = append(m.lines, l...)
	return api.OK
}

func (m *model) hard(h api.Hard) api.Errno {
	if h.Term < 0 || h.Term > top || h.Vote < 0 || h.Vote > 7 {
		return api.ErrForm
	}
	b := hardLine(h)
	return m.add(b, line{h: &h, size: len(b)})
}

func goodEntry(e api.Entry) bool {
	return e.Index > 0 && e.Index <= top && e.Term > 0 && e.Term <= top && e.Kind > 0 && e.Kind < 4 && len(e.Data) <= 2500
}

func (m *model) write(l []api.Entry) api.Errno {
	s := m.state()
	next := int64(0)
	for i, e := range l {
		switch {
		case !goodEntry(e), i > 0 && e.Index != next:
			return api.ErrForm
		case i == 0 && (e.Index <= s.S.Index || e.Index-int64(len(s.Log)) > s.S.Index+1):
			return api.ErrForm
		}
		next = e.Index + 1
	}
	if len(l) == 0 {
		return api.OK
	}
	if int(next-1-s.S.Index) > most {
		return api.ErrFull
	}
	var lines []line
	for _, e := range l {
		lines = append(lines, lineOf(e))
	}
	return m.add(entryLines(l), lines...)
}

func (m *model) sync() api.Errno {
	m.begin()
	m.firm = len(m.lines)
	return api.OK
}

func (m *model) snap(x api.Snap) api.Errno {
	s := m.state()
	if x.Index < s.S.Index || x.Index > top || x.Term < 0 || x.Term > top || len(x.Conf) > 50 || len(x.Data) > 200000 {
		return api.ErrForm
	}
	stays := x.Index == s.S.Index && x.Term == s.S.Term
	var behind []api.Entry
	for _, e := range s.Log {
		stays = stays || e.Index == x.Index && e.Term == x.Term
		if e.Index > x.Index {
			behind = append(behind, e)
		}
	}
	if !stays {
		behind = nil
	}
	m.anew(keep.State{H: s.H, S: x, Log: behind})
	return api.OK
}

func same(a, b keep.State) bool { return a.H == b.H && a.S == b.S && slices.Equal(a.Log, b.Log) }

// short tells a state, but no more than a few lines of it.
func short(s keep.State) string {
	l := fmt.Sprintf("{%v %d %d %.20q %.20q of %d bytes}", s.H, s.S.Index, s.S.Term, s.S.Conf, s.S.Data, len(s.S.Data))
	for _, e := range s.Log {
		l += fmt.Sprintf(" %d:%d:%d:%.10q", e.Index, e.Term, e.Kind, e.Data)
	}
	return fmt.Sprintf("%.400s (%d entries)", l, len(s.Log))
}

func checkState(t *testing.T, what string, k *keep.Keep, want keep.State) {
	t.Helper()
	if got := k.State(); !same(got, want) {
		t.Errorf("%s: %s, not %s", what, short(got), short(want))
	}
}

func checkErr(t *testing.T, what string, got, want api.Errno) {
	t.Helper()
	if got != want {
		t.Errorf("P11.2: %s: %d, not %d", what, got, want)
	}
}

// checkFile holds all that a disk has against a file's bytes, of which that many are loose.
func checkFile(t *testing.T, d *disk.Disk, want string, loose int) {
	t.Helper()
	if got := d.Names(); !slices.Equal(got, []string{"state"}) {
		t.Errorf("P11.1: the files %q", got)
	}
	b, err := d.Read("state")
	if string(b) != want || err != api.OK {
		t.Errorf("P11.2: the file is %.40x of %d bytes, not %.40x of %d", b, len(b), want, len(want))
	}
	if n := d.Loose("state"); n != loose {
		t.Errorf("P11.2: %d bytes of the file are loose, not %d", n, loose)
	}
}

func open(t *testing.T, d *disk.Disk) *keep.Keep {
	t.Helper()
	k, err := keep.Open(d)
	if k == nil || err != api.OK {
		t.Fatalf("P11.1: Open: %d", err)
	}
	return k
}

// diskOf answers a disk whose file state has just those bytes.
func diskOf(b string) *disk.Disk {
	d := disk.New()
	d.Swap("state", []byte(b))
	return d.Crash(0)
}

// both is a keep on its disk and its model, that are told the same.
type both struct {
	t *testing.T
	d *disk.Disk
	k *keep.Keep
	m *model
}

func newBoth(t *testing.T) both {
	t.Helper()
	d := disk.New()
	return both{t, d, open(t, d), &model{}}
}

func (x both) hard(h api.Hard) {
	x.t.Helper()
	checkErr(x.t, fmt.Sprint("Hard of ", h), x.k.Hard(h), x.m.hard(h))
}

func (x both) write(l []api.Entry) {
	x.t.Helper()
	what := fmt.Sprintf("Write of %d", len(l))
	if len(l) > 0 {
		what += fmt.Sprintf(" from %d on", l[0].Index)
	}
	checkErr(x.t, what, x.k.Write(l), x.m.write(l))
}

func (x both) sync() {
	x.t.Helper()
	checkErr(x.t, "Sync", x.k.Sync(), x.m.sync())
}

func (x both) snap(s api.Snap) {
	x.t.Helper()
	checkErr(x.t, fmt.Sprintf("Snap of %d, %d, %d bytes", s.Index, s.Term, len(s.Data)), x.k.Snap(s), x.m.snap(s))
}

// check holds the state and the file against the model's, and what Open finds.
func (x both) check() {
	x.t.Helper()
	checkState(x.t, "P11.2: State", x.k, x.m.state())
	if !x.m.there {
		if len(x.d.Names()) != 0 {
			x.t.Errorf("P11.1: the files %q, and nothing was written", x.d.Names())
		}
		return
	}
	checkFile(x.t, x.d, x.m.file, x.m.loose())
	calls := x.d.Calls()
	checkState(x.t, "P11.1: Open", open(x.t, x.d), x.m.state())
	if x.d.Calls() != calls {
		x.t.Errorf("P11.1: Open of a whole file writes")
	}
}

// crash holds what Open finds behind a crash that leaves n loose bytes against the model's, and answers it.
func (x both) crash(n int) both {
	x.t.Helper()
	d := x.d.Crash(n)
	left := x.m.crashed(n % (x.m.loose() + 1))
	before := d.Loose("state")
	k, err := keep.Open(d)
	if k == nil || err != api.OK || before != 0 {
		x.t.Fatalf("P11.2: Open behind Crash(%d): %d", n, err)
	}
	checkState(x.t, fmt.Sprintf("P11.2: behind Crash(%d)", n), k, left.state())
	if x.m.there {
		checkFile(x.t, d, left.file, 0)
	}
	return both{x.t, d, k, left}
}

func (x both) crashEach() {
	x.t.Helper()
	for n := range x.d.Loose("state") + 1 {
		x.crash(n)
	}
}

// P11.1: Open

func TestOpenOfNoFile(t *testing.T) {
	d := disk.New()
	d.Swap("queue", []byte("other"))
	for range 2 {
		checkState(t, "P11.1: Open of no file", open(t, d), keep.State{})
	}
	if d.Calls() != 1 || !slices.Equal(d.Names(), []string{"queue"}) {
		t.Errorf("P11.1: Open of no file: %d calls, %q", d.Calls()-1, d.Names())
	}
	k := open(t, d)
	k.Hard(api.Hard{Term: 1})
	if b, _ := d.Read("queue"); string(b) != "other" || !slices.Equal(d.Names(), []string{"queue", "state"}) {
		t.Errorf("P11.1: the files %q", d.Names())
	}
}

// checkOpen holds what Open finds in a file that is whole against a state.
func checkOpen(t *testing.T, b string, want keep.State) {
	t.Helper()
	d := diskOf(b)
	checkState(t, "P11.1: Open", open(t, d), want)
	checkFile(t, d, b, 0)
	if d.Calls() != 0 {
		t.Errorf("P11.1: Open of a whole file writes")
	}
}

func TestOpenOfSnapshots(t *testing.T) {
	for _, s := range []api.Snap{
		{}, {Index: 3, Term: 2, Conf: "123", Data: "pack horse"}, {Index: top, Term: top}, {Term: 5},
		{Conf: mixed(50), Data: mixed(3000)}, {Index: 1, Data: mixed(3001)}, {Index: 9, Term: 9, Data: mixed(200000)},
	} {
		checkOpen(t, snapLines(s), keep.State{S: s})
		h := api.Hard{Term: 8, Vote: 7}
		checkOpen(t, snapLines(s)+hardLine(h), keep.State{S: s, H: h})
		if s.Index < top {
			l := entries(s.Index+1, 1)
			checkOpen(t, snapLines(s)+entryLines(l), keep.State{S: s, Log: l})
		}
	}
}

// rows are lines, told shortly, and the Indexes and Terms that stand behind them.
var rows = []struct{ lines, want string }{
	{"", ""},
	{"4.1", "4.1"},
	{"4.1 5.1 6.2", "4.1 5.1 6.2"},
	{"4.1 4.2", "4.2"},
	{"4.1 4.1", "4.1"},
	{"4.1 5.1 6.1 4.2", "4.2"},
	{"4.1 5.1 6.1 5.2", "4.1 5.2"},
	{"4.1 5.1 6.1 6.2", "4.1 5.1 6.2"},
	{"4.1 5.1 6.1 5.1", "4.1 5.1"},
	{"4.1 5.1 6.1 5.2 6.3 7.4", "4.1 5.2 6.3 7.4"},
	{"4.1 5.1 6.1 4.2 5.2", "4.2 5.2"},
	{"4.9 5.8 6.1", "4.9 5.8 6.1"},
	{"4.1 4.2 4.3 5.3 4.1 5.1 5.2 6.2", "4.1 5.2 6.2"},
	{"3.1", "corrupt"},
	{"5.1", "corrupt"},
	{"1.1", "corrupt"},
	{"2.1", "corrupt"},
	{"1099511627776.1", "corrupt"},
	{"4.1 6.1", "corrupt"},
	{"4.1 3.1", "corrupt"},
	{"4.1 2.1", "corrupt"},
	{"4.1 5.1 7.1", "corrupt"},
	{"4.1 5.1 6.1 4.1 6.1", "corrupt"},
	{"4.1 5.1 6.1 3.1 4.1", "corrupt"},
	{"4.1 260.1", "corrupt"},
	{"4.1 6.1 5.1", "corrupt"},
}

// read answers the entries that are told shortly.
func read(s string) []api.Entry {
	var l []api.Entry
	for _, f := range strings.Fields(s) {
		var e api.Entry
		fmt.Sscanf(f, "%d.%d", &e.Index, &e.Term)
		e.Kind, e.Data = 1+len(l)%3, f+strings.Repeat("-", len(l))
		l = append(l, e)
	}
	return l
}

// told answers a state's entries, shortly.
func told(s keep.State) string {
	var l []string
	for _, e := range s.Log {
		l = append(l, fmt.Sprintf("%d.%d", e.Index, e.Term))
	}
	return strings.Join(l, " ")
}

func TestOpenOfRecords(t *testing.T) {
	snap := api.Snap{Index: 3, Term: 1, Conf: "12", Data: "d"}
	for _, x := range rows {
		for _, hards := range [][2]string{{"", ""}, {hardLine(api.Hard{Term: 3, Vote: 2}), hardLine(api.Hard{Term: 9, Vote: 1})}} {
			b := snapLines(snap) + hards[0] + entryLines(read(x.lines)) + hards[1]
			d := diskOf(b)
			if x.want == "corrupt" {
				checkCorrupt(t, d)
				continue
			}
			s := open(t, d).State()
			if told(s) != x.want || s.S != snap || hards[0] == "" && s.H != (api.Hard{}) || hards[0] != "" && s.H != (api.Hard{Term: 9, Vote: 1}) {
				t.Errorf("P11.1: Open of %q: %s", x.lines, short(s))
			}
			lines := read(x.lines)
			for _, e := range s.Log {
				if !slices.Contains(lines, e) {
					t.Errorf("P11.1: Open of %q: the entry %v", x.lines, e)
				}
			}
			checkFile(t, d, b, 0)
		}
	}
}

// checkCorrupt asks Open of a spoilt file, which stays as it is.
func checkCorrupt(t *testing.T, d *disk.Disk) {
	t.Helper()
	before, _ := d.Read("state")
	calls := d.Calls()
	for range 2 {
		if k, err := keep.Open(d); k != nil || err != api.ErrCorrupt {
			t.Errorf("P11.1: Open of %.60x of %d bytes: %v, %d", before, len(before), k != nil, err)
		}
	}
	if after, _ := d.Read("state"); !bytes.Equal(before, after) || d.Calls() != calls {
		t.Errorf("P11.1: Open of a spoilt file writes")
	}
}

// Hards stand among the entries, and the last one counts.
func TestOpenOfHardsAmongEntries(t *testing.T) {
	b := snapLines(api.Snap{})
	var want keep.State
	for i := range 30 {
		want.H = api.Hard{Term: int64(i * 5 % 7), Vote: i % 8}
		e := entries(int64(i+1), int64(i%4+1))[0]
		want.Log = append(want.Log, e)
		b += hardLine(want.H) + entryLine(e)
		checkOpen(t, b, want)
	}
	want.H = api.Hard{}
	checkOpen(t, b+hardLine(api.Hard{}), want)
}

// Whatever part of a record has come: it is cut off, and the rest stays byte by byte.
func TestOpenOfATornTail(t *testing.T) {
	snap := snapLines(api.Snap{Index: 3, Term: 1, Conf: "1", Data: mixed(3100)})
	// The lines that were passed over stay too.
	ahead := []string{snap, snap + entryLines(read("4.1 5.1 4.2")) + hardLine(api.Hard{Term: 2}), snap + entryLines(read("4.1 5.1"))}
	for i, whole := range ahead {
		want := open(t, diskOf(whole)).State()
		for _, last := range []string{hardLine(api.Hard{Term: top, Vote: 7}), entryLine(entries(5, 3)[0]), entryLine(many(4, 1, 2500)[0]), entryLine(entries(9, 3)[0]), sealed(9, "abc")} {
			for n := 1; n < len(last); n += 1 + n/20 {
				d := diskOf(whole + last[:n])
				k := open(t, d)
				checkState(t, fmt.Sprintf("P11.1: a torn tail of %d bytes, %d", n, i), k, want)
				checkFile(t, d, whole, 0)
				if d.Calls() != 1 {
					t.Errorf("P11.1: a torn tail: %d calls", d.Calls())
				}
				checkErr(t, "Hard behind a torn tail", k.Hard(api.Hard{Term: 6, Vote: 3}), api.OK)
				checkFile(t, d, whole+hardLine(api.Hard{Term: 6, Vote: 3}), len(hardLine(api.Hard{Term: 6, Vote: 3})))
			}
		}
	}
}

// A tail that is cut off is so at once, though nothing of the file lasted.
func TestOpenOfALooseTornTail(t *testing.T) {
	whole := snapLines(api.Snap{}) + entryLines(entries(1, 1, 1))
	d := disk.New()
	d.Append("state", []byte(whole+"\x02"))
	want := open(t, d).State()
	checkFile(t, d, whole, 0)
	checkState(t, "P11.1: behind a crash", open(t, d.Crash(-1)), want)
	// One that is whole is not written, and stays as loose as it was.
	d = disk.New()
	d.Append("state", []byte(whole))
	checkState(t, "P11.1: a loose file", open(t, d), want)
	checkFile(t, d, whole, len(whole))
}

func TestOpenOfSpoiltSnapshots(t *testing.T) {
	small := snapLines(api.Snap{Index: 3, Term: 1, Conf: "12", Data: "pack horse"})
	for n := range small {
		checkCorrupt(t, diskOf(small[:n]))
	}
	for i := range small {
		for _, d := range []byte{1, 2, 0x10, 0x80} {
			b := []byte(small)
			b[i] ^= d
			checkCorrupt(t, diskOf(string(b)))
			checkCorrupt(t, diskOf(string(b)+entryLines(entries(4, 1))))
		}
	}
	big := snapLines(api.Snap{Index: 3, Term: 1, Data: mixed(9500)})
	for n := 0; n < len(big); n += 131 {
		checkCorrupt(t, diskOf(big[:n]))
	}
	head := sealed(3, numbers(3, 1)+text("")+numbers(3000))
	for _, s := range []string{
		"?", "\x00", "\xff\xff\xff", hardLine(api.Hard{}), entryLine(entries(1, 1)[0]), hardLine(api.Hard{Term: 1}) + small, entryLines(entries(1, 1)) + small,
		sealed(4, "abc"), head, head + sealed(4, mixed(2999)), head + hardLine(api.Hard{}), head + sealed(4, mixed(3001)),
		sealed(3, numbers(-1, 1)+text("")+numbers(0)), sealed(3, numbers(1, top+1)+text("")+numbers(0)), sealed(3, numbers(1, 1)+text(mixed(51))+numbers(0)),
	} {
		checkCorrupt(t, diskOf(s))
	}
}

func TestOpenOfSpoiltRecords(t *testing.T) {
	snap := snapLines(api.Snap{Index: 3, Term: 1})
	lines := entryLines(read("4.1 5.1"))
	for _, bad := range []string{
		"\x00", "\x01\x01", "\x01\x80\x80", sealed(9, ""), sealed(4, ""), sealed(4, "abc"), snapLines(api.Snap{Index: 3, Term: 1}), snapLines(api.Snap{}),
		sealed(1, numbers(-1, 0)), sealed(1, numbers(1, 8)), sealed(1, numbers(top+1, 1)), sealed(1, numbers(1)), sealed(1, numbers(1, 1, 1)),
		sealed(2, numbers(6, 0, 1)+text("")), sealed(2, numbers(6, 1, 0)+text("")), sealed(2, numbers(6, 1, 4)+text("")), sealed(2, numbers(6, 1, 1)+text(mixed(2501))), sealed(2, numbers(6, 1, 1)),
	} {
		for _, ahead := range []string{"", lines, hardLine(api.Hard{Term: 2})} {
			for _, behind := range []string{"", lines, "\x01", hardLine(api.Hard{Term: 2})} {
				checkCorrupt(t, diskOf(snap+ahead+bad+behind))
			}
		}
	}
	// A byte that is another one spoils the file, or makes a torn tail of what stands from its record on.
	whole := snap + lines
	torn := 0
	for i := len(snap); i < len(whole); i++ {
		b := []byte(whole)
		b[i] ^= 4
		k, err := keep.Open(diskOf(string(b)))
		switch {
		case err == api.OK && len(k.State().Log) < 2:
			torn++
		case err != api.ErrCorrupt || k != nil:
			t.Errorf("P11.1: the byte %d is spoilt: %d", i, err)
		}
	}
	if torn > 10 {
		t.Errorf("P11.1: %d spoilt bytes make a torn tail", torn)
	}
	// What is corrupt ahead of a torn tail is told, and nothing is cut off.
	checkCorrupt(t, diskOf(snap+entryLines(read("4.1 6.1"))+"\x01"))
	checkCorrupt(t, diskOf(snap+entryLines(read("3.1"))+"\x01\x04"))
	checkCorrupt(t, diskOf(snap+entryLines(many(4, 201, 1))+"\x02"))
}

func TestOpenOfManyEntries(t *testing.T) {
	for _, s := range []api.Snap{{}, {Index: 7, Term: 2}, {Index: top - 205, Term: 9}} {
		for _, n := range []int{199, 200} {
			l := many(s.Index+1, n, 3)
			checkOpen(t, snapLines(s)+entryLines(l), keep.State{S: s, Log: l})
		}
		for _, n := range []int{201, 202, 205} {
			checkCorrupt(t, diskOf(snapLines(s)+entryLines(many(s.Index+1, n, 3))))
		}
	}
	checkCorrupt(t, diskOf(snapLines(api.Snap{})+entryLines(many(1, 3000, 3))))
	checkCorrupt(t, diskOf(snapLines(api.Snap{})+entryLines(many(1, 200, 3))+hardLine(api.Hard{Term: 1})+entryLines(many(201, 1, 3))))
	// There may be more records than that, as long as those that stand are not.
	b := snapLines(api.Snap{}) + strings.Repeat(hardLine(api.Hard{Term: 4, Vote: 4}), 500)
	for i := range 20 {
		b += entryLines(many(int64(1+i), 200-i, 2))
	}
	want := keep.State{H: api.Hard{Term: 4, Vote: 4}, Log: many(1, 200, 2)}
	for i := range want.Log {
		want.Log[i].Kind = many(int64(1+min(i, 19)), 200, 2)[i-min(i, 19)].Kind
	}
	checkOpen(t, b, want)
}

// P11.2: Hard

func TestHard(t *testing.T) {
	x := newBoth(t)
	for _, term := range []int64{0, 1, 63, 64, top - 1, top, 3} {
		for vote := range 8 {
			x.hard(api.Hard{Term: term, Vote: vote})
			x.check()
		}
	}
	x.crashEach()
	for _, h := range badHards() {
		checkErr(t, fmt.Sprint("Hard of ", h), x.k.Hard(h), api.ErrForm)
	}
	x.check()
}

func badHards() []api.Hard {
	var l []api.Hard
	for _, n := range []int64{-1, -2, top + 1, 1 << 41, 1 << 48, math.MinInt64, math.MaxInt64, -1 << 40} {
		l = append(l, api.Hard{Term: n}, api.Hard{Term: n, Vote: 1}, api.Hard{Term: n, Vote: 9})
	}
	for _, n := range []int{-1, 8, 9, 255, 256, 1 << 32, 1<<32 + 1, math.MinInt, math.MaxInt} {
		l = append(l, api.Hard{Vote: n}, api.Hard{Term: 5, Vote: n})
	}
	return l
}

// What is refused as the first call makes no file.
func TestRefusedAtFirst(t *testing.T) {
	x := newBoth(t)
	for _, h := range badHards() {
		x.hard(h)
	}
	x.write(nil)
	x.write([]api.Entry{})
	x.write(entries(2, 1))
	x.write(entries(0, 1))
	x.write(many(1, 201, 1))
	x.snap(api.Snap{Index: -1})
	x.check()
	if x.d.Calls() != 0 {
		t.Errorf("P11.2: %d calls of the disk", x.d.Calls())
	}
}

// Behind a crash that comes at the first records there is a state still.
func TestFirstRecords(t *testing.T) {
	for _, first := range []func(x both){
		func(x both) { x.hard(api.Hard{Term: 5, Vote: 1}) },
		func(x both) { x.write(entries(1, 1, 2)) },
		func(x both) { x.sync() },
		func(x both) { x.snap(api.Snap{}) },
		func(x both) { x.snap(api.Snap{Index: 9, Term: 3, Conf: "1", Data: mixed(4000)}) },
	} {
		x := newBoth(t)
		first(x)
		x.check()
		x.crashEach()
		x.hard(api.Hard{Term: 7})
		x.check()
		x.crashEach()
	}
}

// P11.2: Write

func TestWriteOfRows(t *testing.T) {
	for _, x := range rows {
		for _, at := range []int64{0, 3, 3 + 1<<32} {
			y := newBoth(t)
			if at > 0 {
				y.snap(api.Snap{Index: at, Term: 1})
			}
			for _, e := range read(x.lines) {
				e.Index += at - 3
				y.write([]api.Entry{e})
				y.check()
			}
			y.crashEach()
		}
	}
}

func TestWriteOfLists(t *testing.T) {
	x := newBoth(t)
	x.snap(api.Snap{Index: 10, Term: 3})
	x.write(entries(11, 3, 3, 4, 4, 5))
	for first := int64(8); first < 19; first++ {
		for n := 1; n < 9; n++ {
			y := x.crash(x.d.Loose("state"))
			y.write(entries(first, slices.Repeat([]int64{9}, n)...))
			y.check()
			y.crashEach()
		}
	}
	// The Terms may be any.
	x.write(entries(12, 9, 1, 5, top, 2))
	x.write(entries(13, 1))
	x.write(entries(13, 1))
	x.check()
	x.crashEach()
}

// badEntries are entries none of which may be, though their Index is the right one if it can be.
func badEntries(index int64) []api.Entry {
	l := []api.Entry{{}, {Index: index}, {Index: index, Term: 1}, {Index: index, Kind: 1}, {Index: 0, Term: 1, Kind: 1}, {Index: -1, Term: 1, Kind: 1}}
	for _, n := range []int64{0, -1, top + 1, 1 << 41, math.MinInt64, math.MaxInt64} {
		l = append(l, api.Entry{Index: index, Term: n, Kind: 1}, api.Entry{Index: n, Term: 1, Kind: 1})
	}
	for _, kind := range []int{0, -1, 4, 256, 257, 1<<32 + 1, math.MinInt, math.MaxInt} {
		l = append(l, api.Entry{Index: index, Term: 1, Kind: kind})
	}
	for _, n := range []int{2501, 2502, 4000, 5000, 1 << 21} {
		l = append(l, api.Entry{Index: index, Term: 1, Kind: 1, Data: strings.Repeat("x", n)})
	}
	return l
}

func TestWriteOfWhatMayNotBe(t *testing.T) {
	x := newBoth(t)
	x.write(entries(1, 1, 1, 2))
	x.sync()
	x.write(entries(4, 2))
	calls := x.d.Calls()
	for _, at := range []int64{1, 3, 5} {
		for _, e := range badEntries(at) {
			checkErr(t, fmt.Sprintf("Write of %.60q", fmt.Sprint(e)), x.k.Write([]api.Entry{e}), api.ErrForm)
			checkErr(t, fmt.Sprintf("Write of %.60q at the end", fmt.Sprint(e)), x.k.Write(append(entries(at-1, 1), e)), api.ErrForm)
		}
		for _, e := range badEntries(at) {
			l := entries(at, 3, 3, 3)
			l[0] = e
			checkErr(t, "Write", x.k.Write(l), api.ErrForm)
			l = entries(at-1, 3, 3, 3)
			l[1] = e
			checkErr(t, "Write", x.k.Write(l), api.ErrForm)
		}
	}
	for _, s := range []string{"6.1", "7.1", "1099511627776.1", "5.1 7.1", "5.1 5.1", "5.1 4.1", "5.1 6.1 8.1", "5.1 6.1 6.1", "5.1 6.1 5.1", "1.1 3.1", "4.1 5.1 7.1 6.1", "1.1 2.1 3.1 5.1 4.1", "5.1 1099511627776.1"} {
		checkErr(t, "Write of "+s, x.k.Write(read(s)), api.ErrForm)
	}
	for _, n := range []int64{math.MaxInt64, math.MaxInt64 - 1} {
		l := entries(n, 1, 1, 1)
		checkErr(t, "Write of huge Indexes", x.k.Write(l), api.ErrForm)
	}
	if x.d.Calls() != calls {
		t.Errorf("P11.2: what is refused writes")
	}
	x.check()
	x.crashEach()
}

func TestWriteOfNone(t *testing.T) {
	x := newBoth(t)
	x.write(entries(1, 1))
	calls := x.d.Calls()
	for _, l := range [][]api.Entry{nil, {}, entries(1, 1)[:0]} {
		checkErr(t, "Write of none", x.k.Write(l), api.OK)
	}
	if x.d.Calls() != calls {
		t.Errorf("P11.2: Write of none writes")
	}
	x.check()
}

func TestWriteOfTheGreatestIndexes(t *testing.T) {
	x := newBoth(t)
	x.snap(api.Snap{Index: top - 2, Term: top})
	x.write(entries(top-1, top, top))
	x.check()
	x.write(entries(top+1, 1))
	x.write(entries(top, 1, 1))
	x.write(entries(top-2, 1))
	x.check()
	x.snap(api.Snap{Index: top, Term: top})
	x.write(entries(top+1, 1))
	x.write(entries(top, 1))
	x.check()
	if n := len(x.k.State().Log); n != 0 {
		t.Errorf("P11.2: %d entries behind the greatest Index", n)
	}
}

func TestWriteOfTooMany(t *testing.T) {
	for _, at := range []int64{0, 1000} {
		x := newBoth(t)
		x.snap(api.Snap{Index: at, Term: 1})
		x.write(many(at+1, 201, 1))
		x.write(many(at+1, 100000, 1))
		x.write(many(at+1, 199, 1))
		x.write(many(at+200, 2, 1))
		x.check()
		x.write(many(at+200, 1, 1))
		x.check()
		for _, first := range []int64{at + 201, at + 200, at + 199, at + 2, at + 1} {
			x.write(many(first, int(at+202-first), 2))
			x.write(many(first, 300, 2))
			x.check()
		}
		// What goes makes room.
		x.write(many(at+3, 198, 2))
		x.check()
		x.write(many(at+100, 1, 3))
		x.write(many(at+101, 101, 3))
		x.write(many(at+101, 100, 3))
		x.check()
		x.snap(api.Snap{Index: at + 5, Term: 7})
		x.write(many(at+201, 6, 3))
		x.write(many(at+201, 5, 3))
		x.check()
		x.crash(x.d.Loose("state"))
		x.crash(0)
		x.crash(77)
	}
}

// That an entry may not be is told ahead of how many there are.
func TestErrorsInOrder(t *testing.T) {
	x := newBoth(t)
	x.write(many(1, 200, 1))
	for _, e := range badEntries(202) {
		checkErr(t, "Write of too many, of which one may not be", x.k.Write(append(many(201, 1, 1), e)), api.ErrForm)
	}
	l := many(1, 400, 1)
	l[399].Kind = 9
	checkErr(t, "Write of too many, of which the last one may not be", x.k.Write(l), api.ErrForm)
	l = many(1, 400, 1)
	l[399].Index = 401
	checkErr(t, "Write of too many with a gap at the end", x.k.Write(l), api.ErrForm)
	checkErr(t, "Write of too many behind a gap", x.k.Write(many(202, 400, 1)), api.ErrForm)
	checkErr(t, "Write of too many from 0 on", x.k.Write(many(0, 400, 1)), api.ErrForm)
	checkErr(t, "Write of too many", x.k.Write(many(201, 1, 1)), api.ErrFull)
	x.check()
}

// P11.2: what lasts

func TestAppendedNotSynced(t *testing.T) {
	x := newBoth(t)
	x.snap(api.Snap{Index: 3, Term: 1, Data: "d"})
	calls := x.d.Calls()
	for i := range 5 {
		x.hard(api.Hard{Term: int64(i), Vote: i})
		x.write(entries(int64(4+i), 2, 2, 2))
		if x.d.Calls() != calls+2*i+2 {
			t.Errorf("P11.2: a Hard and a Write are %d calls", x.d.Calls()-calls-2*i)
		}
		x.check()
	}
	if x.d.Loose("state") != len(x.m.file)-len(wholeFile(keep.State{S: api.Snap{Index: 3, Term: 1, Data: "d"}})) {
		t.Errorf("P11.2: %d bytes are loose", x.d.Loose("state"))
	}
	x.crashEach()
	x.sync()
	x.check()
	x.crashEach()
	x.hard(api.Hard{Term: 50})
	x.write(entries(5, 6, 6))
	x.check()
	x.crashEach()
}

// A beginning of what was written stays, with each part of a Write at a time.
func TestBeginnings(t *testing.T) {
	x := newBoth(t)
	x.write(entries(1, 1, 1, 1))
	x.hard(api.Hard{Term: 1, Vote: 1})
	x.sync()
	x.write(entries(2, 2, 2))
	x.hard(api.Hard{Term: 2, Vote: 2})
	x.write(entries(4, 2))
	var seen []string
	for n := range x.d.Loose("state") + 1 {
		s := open(t, x.d.Crash(n)).State()
		if now := fmt.Sprint(s.H.Term, " ", told(s)); !slices.Contains(seen, now) {
			seen = append(seen, now)
		}
	}
	want := []string{"1 1.1 2.1 3.1", "1 1.1 2.2", "1 1.1 2.2 3.2", "2 1.1 2.2 3.2", "2 1.1 2.2 3.2 4.2"}
	if !slices.Equal(seen, want) {
		t.Errorf("P11.2: behind a crash: %q", seen)
	}
	x.crashEach()
}

func TestSync(t *testing.T) {
	x := newBoth(t)
	x.sync()
	x.check()
	x.sync()
	x.hard(api.Hard{Term: 1})
	x.sync()
	x.check()
	x.crash(0)
	x.write(entries(1, 1, 1))
	x.crash(0)
	x.sync()
	x.check()
	x.crash(0)
	x.snap(api.Snap{Index: 1, Term: 1})
	x.sync()
	x.check()
	x.crash(0)
}

// P11.2: Snap

func TestSnap(t *testing.T) {
	for _, x := range []struct {
		index, term int64
		want        string
	}{
		{10, 3, "11.3 12.3 13.4 14.4"},
		{10, 2, ""},
		{10, 4, ""},
		{10, 0, ""},
		{11, 3, "12.3 13.4 14.4"},
		{12, 3, "13.4 14.4"},
		{13, 4, "14.4"},
		{14, 4, ""},
		{11, 4, ""},
		{12, 4, ""},
		{13, 3, ""},
		{14, 3, ""},
		{12, 0, ""},
		{15, 4, ""},
		{16, 4, ""},
		{15, 0, ""},
		{top, top, ""},
		{9, 3, "refused"},
		{0, 0, "refused"},
		{9, 4, "refused"},
		{-1, 3, "refused"},
	} {
		for _, data := range []string{"", "new", mixed(3000), mixed(200000)} {
			y := newBoth(t)
			y.snap(api.Snap{Index: 10, Term: 3, Conf: "12", Data: "old"})
			y.hard(api.Hard{Term: 4, Vote: 2})
			y.write(entries(11, 3, 3, 4, 4))
			before := told(y.k.State())
			calls := y.d.Calls()
			s := api.Snap{Index: x.index, Term: x.term, Conf: "123", Data: data}
			y.snap(s)
			y.check()
			y.crash(0)
			y.crash(17)
			got := y.k.State()
			if x.want == "refused" {
				if told(got) != before || got.S.Data != "old" || y.d.Calls() != calls {
					t.Errorf("P11.2: Snap of %d, %d: %s", x.index, x.term, short(got))
				}
				continue
			}
			if told(got) != x.want || got.S != s || got.H != (api.Hard{Term: 4, Vote: 2}) {
				t.Errorf("P11.2: Snap of %d, %d: %s", x.index, x.term, short(got))
			}
			if y.d.Calls() != calls+1 || y.d.Loose("state") != 0 {
				t.Errorf("P11.2: Snap of %d, %d: %d calls, %d bytes are loose", x.index, x.term, y.d.Calls()-calls, y.d.Loose("state"))
			}
			y.write(entries(x.index+int64(len(got.Log))+1, 5, 5))
			y.check()
		}
	}
}

// Of a new state the snapshot of Index and Term 0 is the one that is there.
func TestSnapOfZero(t *testing.T) {
	x := newBoth(t)
	x.write(entries(1, 1, 2))
	x.snap(api.Snap{Conf: "123", Data: "table"})
	x.check()
	if told(x.k.State()) != "1.1 2.2" {
		t.Errorf("P11.2: Snap of 0, 0: %s", short(x.k.State()))
	}
	x.snap(api.Snap{Term: 1})
	x.check()
	if told(x.k.State()) != "" {
		t.Errorf("P11.2: Snap of 0, 1: %s", short(x.k.State()))
	}
}

func TestSnapOfWhatMayNotBe(t *testing.T) {
	x := newBoth(t)
	x.snap(api.Snap{Index: 2, Term: 2, Data: "d"})
	x.write(entries(3, 2, 2))
	calls := x.d.Calls()
	var bad []api.Snap
	for _, n := range []int64{-1, top + 1, 1 << 41, math.MinInt64, math.MaxInt64} {
		bad = append(bad, api.Snap{Index: n, Term: 2}, api.Snap{Index: 3, Term: n}, api.Snap{Index: n, Term: n})
	}
	for _, n := range []int{51, 52, 3000} {
		bad = append(bad, api.Snap{Index: 3, Term: 2, Conf: mixed(n)})
	}
	for _, n := range []int{200001, 203000, 1 << 21} {
		bad = append(bad, api.Snap{Index: 3, Term: 2, Data: strings.Repeat("x", n)})
	}
	for _, s := range append(bad, api.Snap{}, api.Snap{Index: 1, Term: 2}, api.Snap{Index: 1, Term: 3}, api.Snap{Index: 0, Term: 2}) {
		checkErr(t, fmt.Sprintf("Snap of %d, %d, %d, %d bytes", s.Index, s.Term, len(s.Conf), len(s.Data)), x.k.Snap(s), api.ErrForm)
	}
	if x.d.Calls() != calls {
		t.Errorf("P11.2: what is refused writes")
	}
	x.check()
	x.crashEach()
}

// A snapshot lasts at once, and with it what was not synced.
func TestSnapLasts(t *testing.T) {
	x := newBoth(t)
	x.write(entries(1, 1, 1, 2, 2))
	x.sync()
	x.write(entries(3, 3, 3, 3))
	x.hard(api.Hard{Term: 3, Vote: 3})
	x.snap(api.Snap{Index: 3, Term: 3, Conf: "1", Data: "d"})
	x.check()
	left := x.crash(0)
	if s := left.k.State(); told(s) != "4.3 5.3" || s.H != (api.Hard{Term: 3, Vote: 3}) || s.S.Data != "d" {
		t.Errorf("P11.2: behind a Snap and a crash: %s", short(s))
	}
	x.write(entries(6, 4))
	x.crashEach()
}

// P11.2: laid anew

// fill writes until the file has just n bytes.
func (x both) fill(n int) {
	x.t.Helper()
	own := len(entryLine(many(1, 1, 2000)[0]))
	x.write(many(1, 1, 1))
	for n-len(x.m.file) > 2*own {
		x.write(many(1, 1, 2000))
	}
	for size := 0; len(x.m.file) < n && size <= 2500; size++ {
		// The last one or two lines have just what is left.
		rest := n - len(x.m.file) - len(entryLine(many(1, 1, size)[0]))
		if rest == 0 {
			x.write(many(1, 1, size))
		} else if rest == len(hardLine(api.Hard{Term: 1})) {
			x.write(many(1, 1, size))
			x.hard(api.Hard{Term: 1})
		} else if rest > own/2 && rest < own && size > 1000 {
			x.write(many(1, 1, size))
			size = 0
		}
	}
	if len(x.m.file) != n {
		x.t.Fatalf("the test's file has %d bytes, not %d", len(x.m.file), n)
	}
}

func TestLaidAnewAtTheLastByte(t *testing.T) {
	h := api.Hard{Term: 5, Vote: 5}
	l := many(2, 3, 50)
	for _, write := range []struct {
		size int
		call func(x both)
	}{
		{len(hardLine(h)), func(x both) { x.hard(h) }},
		{len(entryLines(l)), func(x both) { x.write(l) }},
	} {
		for _, left := range []int{write.size, write.size - 1, 1, 0, write.size + 1} {
			x := newBoth(t)
			x.snap(api.Snap{Conf: "12", Data: mixed(4000)})
			x.fill(full - left)
			before := x.k.State()
			if left == 1 {
				x.sync()
			}
			calls := x.d.Calls()
			write.call(x)
			x.check()
			x.crash(0)
			x.crash(write.size - 1)
			x.crash(x.d.Loose("state"))
			b, _ := x.d.Read("state")
			if left >= write.size {
				if x.d.Calls() != calls+1 || len(b) != full-left+write.size {
					t.Errorf("P11.2: %d bytes were left for %d: %d calls, and the file has %d", left, write.size, x.d.Calls()-calls, len(b))
				}
				continue
			}
			anew := wholeFile(before)
			if !strings.HasPrefix(string(b), anew) || len(b) != len(anew)+write.size || x.d.Loose("state") != write.size || x.d.Calls() != calls+2 {
				t.Errorf("P11.2: %d bytes were left for %d: %d calls, and the file has %d, %d are loose", left, write.size, x.d.Calls()-calls, len(b), x.d.Loose("state"))
			}
		}
	}
}

// What is refused does not lay the file anew.
func TestRefusedInAFullFile(t *testing.T) {
	x := newBoth(t)
	x.fill(full)
	calls := x.d.Calls()
	x.hard(api.Hard{Vote: 8})
	x.write(nil)
	x.write(many(3, 1, 1))
	x.write(many(0, 1, 1))
	x.write(many(1, 201, 1))
	x.snap(api.Snap{Index: -1})
	if x.d.Calls() != calls {
		t.Errorf("P11.2: what is refused in a full file: %d calls", x.d.Calls()-calls)
	}
	x.check()
	x.sync()
	if x.d.Calls() != calls+1 {
		t.Errorf("P11.2: Sync of a full file: %d calls", x.d.Calls()-calls)
	}
	x.check()
	// Behind a Snap there is room again.
	x.snap(api.Snap{Index: 1, Term: 7})
	x.check()
	calls = x.d.Calls()
	x.hard(api.Hard{Term: 1})
	if x.d.Calls() != calls+1 {
		t.Errorf("P11.2: a Hard behind a Snap: %d calls", x.d.Calls()-calls)
	}
	x.check()
}

// A file that is found is as full as it is.
func TestAFullFileIsFound(t *testing.T) {
	x := newBoth(t)
	x.fill(full - 3)
	for _, y := range []both{{t, x.d, open(t, x.d), x.m.crashed(full)}, x.crash(x.d.Loose("state"))} {
		y.m.firm = len(y.m.lines)
		y.d.Sync("state")
		y.hard(api.Hard{Term: 9})
		y.check()
		if n := len(y.m.file); n > full/2 {
			t.Errorf("P11.2: a full file was not laid anew: %d bytes", n)
		}
	}
	// Behind a torn tail only what is whole counts.
	d := diskOf(x.m.file + "\x01\x04")
	k := open(t, d)
	checkErr(t, "Hard", k.Hard(api.Hard{Term: 9}), api.OK)
	b, _ := d.Read("state")
	if string(b) != wholeFile(x.m.state())+hardLine(api.Hard{Term: 9}) {
		t.Errorf("P11.2: a full file with a torn tail: %d bytes", len(b))
	}
	checkCorrupt(t, diskOf(x.m.file+"\x00"))
}

// The disk's ErrFull comes where not even the file that is laid anew has room.
func TestFullDisk(t *testing.T) {
	x := newBoth(t)
	x.snap(api.Snap{Index: 1, Term: 1, Data: mixed(200000)})
	x.write(many(2, 200, 2500))
	x.check()
	for range 3 {
		x.write(many(2, 200, 2500))
		x.check()
		x.hard(api.Hard{Term: 1, Vote: 2})
		x.check()
		x.write(many(101, 101, 2500))
		x.write(many(102, 100, 2500))
		x.check()
		x.crash(0)
		x.crash(100000)
	}
	if err := x.k.Write(many(2, 200, 2500)); err != api.ErrFull {
		t.Errorf("P11.2: Write for which there is no room: %d", err)
	}
	if s := x.k.State(); len(s.Log) != 200 || s.H != (api.Hard{Term: 1, Vote: 2}) {
		t.Errorf("P11.2: behind a Write for which there is no room: %s", short(s))
	}
	// With a snapshot that is small there is room for all of it.
	x = newBoth(t)
	for range 5 {
		x.write(many(1, 200, 2500))
		x.hard(api.Hard{Term: 1, Vote: 2})
	}
	x.check()
}

func TestManyHards(t *testing.T) {
	d := disk.New()
	k := open(t, d)
	k.Write(entries(1, 1, 2, 3))
	want := k.State()
	for i := range 300000 {
		want.H = api.Hard{Term: int64(i), Vote: i % 8}
		if err := k.Hard(want.H); err != api.OK {
			t.Fatalf("P11.2: Hard: %d", err)
		}
	}
	checkState(t, "P11.2: behind many Hards", k, want)
	checkState(t, "P11.2: behind many Hards", open(t, d), want)
	if calls := d.Calls(); calls > 300010 {
		t.Errorf("P11.2: 300,000 Hards are %d calls", calls)
	}
}

// P11.2: as the model

// picker picks numbers below n, always the same ones in the same order.
type picker uint32

func (p *picker) pick(n int) int {
	*p = *p*1664525 + 1013904223
	return int(*p>>8) % n
}

// someEntries answers entries near the log's end, of up to size bytes.
func (p *picker) someEntries(s keep.State, size int) []api.Entry {
	first := s.S.Index + int64(len(s.Log)) + 1 - int64(p.pick(4)*p.pick(2))
	if p.pick(12) == 0 {
		first += int64(p.pick(5) - 2)
	}
	l := entries(first, slices.Repeat([]int64{int64(1 + p.pick(3))}, 1+p.pick(6))...)
	for i := range l {
		l[i].Data = mixed(size)[p.pick(size):]
	}
	if i := p.pick(len(l)); p.pick(12) == 0 {
		l[i].Index += int64(p.pick(3) - 1)
	}
	if i := p.pick(len(l)); p.pick(20) == 0 {
		l[i].Kind = p.pick(5)
	}
	return l
}

func (p *picker) someSnap(s keep.State, size int) api.Snap {
	at := s.S.Index - 1 + int64(p.pick(len(s.Log)+4))
	return api.Snap{Index: at, Term: int64(1 + p.pick(3)), Conf: "123"[:p.pick(4)], Data: mixed(size * p.pick(3))}
}

// step does one thing, and answers what goes on.
func (p *picker) step(x both, size int) both {
	x.t.Helper()
	switch n := p.pick(20); {
	case n < 6:
		x.hard(api.Hard{Term: int64(p.pick(60) - 1), Vote: p.pick(9)})
	case n < 14:
		x.write(p.someEntries(x.m.state(), size))
	case n < 17:
		x.sync()
	case n < 18:
		x.snap(p.someSnap(x.m.state(), size))
	default:
		left := x.crash(p.pick(x.d.Loose("state") + 1))
		if p.pick(3) == 0 {
			return left
		}
	}
	return x
}

func TestAsTheModel(t *testing.T) {
	p := picker(1)
	for range 250 {
		x := newBoth(t)
		for range 60 {
			x = p.step(x, 40)
			x.check()
			if t.Failed() {
				return
			}
		}
	}
}

func TestAsTheModelWithMuch(t *testing.T) {
	p := picker(2)
	for range 4 {
		x := newBoth(t)
		for i := range 900 {
			x = p.step(x, 2400)
			if i%30 == 0 {
				x.check()
			}
			if t.Failed() {
				return
			}
		}
	}
}

// P0.1, P0.3, P0.4, P0.5

func TestNil(t *testing.T) {
	var k *keep.Keep
	for _, l := range [][]api.Entry{nil, {}, entries(1, 1), {{}}, many(1, 300, 1)} {
		checkErr(t, "Write of a nil Keep", k.Write(l), api.ErrDown)
	}
	for _, h := range append(badHards(), api.Hard{}, api.Hard{Term: 1}) {
		checkErr(t, "Hard of a nil Keep", k.Hard(h), api.ErrDown)
	}
	for _, s := range []api.Snap{{}, {Index: -1}, {Index: 1, Data: mixed(200001)}} {
		checkErr(t, "Snap of a nil Keep", k.Snap(s), api.ErrDown)
	}
	checkErr(t, "Sync of a nil Keep", k.Sync(), api.ErrDown)
	checkState(t, "P11.2: a nil Keep", k, keep.State{})
}

// A nil disk has no file, and refuses what is written.
func TestNilDisk(t *testing.T) {
	k := open(t, nil)
	for _, k := range []*keep.Keep{k, new(keep.Keep)} {
		checkErr(t, "Hard on a nil disk", k.Hard(api.Hard{Term: 1}), api.ErrNone)
		checkErr(t, "Hard on a nil disk", k.Hard(api.Hard{Term: -1}), api.ErrForm)
		checkErr(t, "Write on a nil disk", k.Write(entries(1, 1)), api.ErrNone)
		checkErr(t, "Write on a nil disk", k.Write(entries(2, 1)), api.ErrForm)
		checkErr(t, "Write on a nil disk", k.Write(nil), api.OK)
		checkErr(t, "Snap on a nil disk", k.Snap(api.Snap{Index: 1}), api.ErrNone)
		checkErr(t, "Snap on a nil disk", k.Snap(api.Snap{Index: -1}), api.ErrForm)
		checkErr(t, "Sync on a nil disk", k.Sync(), api.ErrNone)
		checkState(t, "P11.2: a nil disk", k, keep.State{})
	}
}

func TestAnyBytes(t *testing.T) {
	p := picker(3)
	for range 3000 {
		b := make([]byte, p.pick(40))
		for i := range b {
			b[i] = byte(p.pick(256))
		}
		if len(b) == 0 || b[0] != 3 {
			checkCorrupt(t, diskOf(string(b)))
		}
		keep.Open(diskOf(snapLines(api.Snap{}) + string(b)))
	}
	for c := range 256 {
		checkCorrupt(t, diskOf(strings.Repeat(string([]byte{byte(c)}), 5000)))
	}
	checkCorrupt(t, diskOf(strings.Repeat("\x00", full)))
	checkCorrupt(t, diskOf(strings.Repeat(snapLines(api.Snap{}), 2)))
}

func TestLongLists(t *testing.T) {
	x := newBoth(t)
	x.write(entries(1, 1))
	x.write(many(1, 1<<20, 1))
	x.write(slices.Repeat(entries(2, 1), 1<<20))
	x.write(make([]api.Entry, 1<<20))
	x.check()
	checkOpen(t, snapLines(api.Snap{})+strings.Repeat(hardLine(api.Hard{Term: 1}), 100000), keep.State{H: api.Hard{Term: 1}})
	checkOpen(t, snapLines(api.Snap{})+strings.Repeat(entryLine(entries(1, 1)[0]), 50000), keep.State{Log: entries(1, 1)})
}

// loan answers a text whose bytes the test can write into.
func loan(s string) (string, []byte) {
	b := []byte(s)
	return unsafe.String(unsafe.SliceData(b), len(b)), b
}

func TestArgumentsAreNotKept(t *testing.T) {
	x := newBoth(t)
	data, own := loan("pack horse")
	l := append(make([]api.Entry, 0, 9), entries(1, 1, 1, 2)...)
	l[1].Data = data
	room := l[:9]
	room[5] = api.Entry{Index: 77}
	given := slices.Clone(room)
	x.write(l)
	if !slices.Equal(room, given) {
		t.Errorf("P0.3: Write has changed what it was given: %v", room)
	}
	want := []api.Entry{entries(1, 1)[0], l[1], entries(1, 1, 1, 2)[2]}
	want[1].Data = "pack horse"
	for i := range room {
		room[i] = api.Entry{Index: 99, Term: 99}
	}
	copy(own, "donkeydonk")
	checkState(t, "P0.3: behind writing into what was handed in", x.k, keep.State{Log: want})
	conf, ownConf := loan("123")
	data, own = loan("pack horse")
	x.k.Snap(api.Snap{Index: 1, Term: 1, Conf: conf, Data: data})
	copy(ownConf, "777")
	copy(own, "donkeydonk")
	now := keep.State{S: api.Snap{Index: 1, Term: 1, Conf: "123", Data: "pack horse"}, Log: want[1:]}
	checkState(t, "P0.3: behind writing into what was handed in", x.k, now)
	checkState(t, "P0.3: Open then", open(t, x.d), now)
}

// spoil writes into a list and all of its room.
func spoil(l []api.Entry) {
	for i := range l[:cap(l)] {
		l[:cap(l)][i] = api.Entry{Index: -5, Data: "spoilt"}
	}
}

func shares(a, b string) bool { return len(a) > 0 && unsafe.StringData(a) == unsafe.StringData(b) }

func TestAnswersAreNewMemory(t *testing.T) {
	x := newBoth(t)
	x.snap(api.Snap{Index: 1, Term: 1, Conf: "123", Data: "pack horse"})
	x.hard(api.Hard{Term: 3, Vote: 3})
	for n := range 20 {
		x.write(entries(int64(2+n), 2, 2))
		a, b := x.k.State(), x.k.State()
		if shares(a.S.Data, b.S.Data) || shares(a.S.Conf, b.S.Conf) || shares(a.Log[0].Data, b.Log[0].Data) || shares(a.Log[n].Data, b.Log[n].Data) {
			t.Errorf("P0.3: two answers share a text")
		}
		spoil(a.Log)
		checkSame(t, b, x.m.state())
		b.Log = append(b.Log, api.Entry{Index: 1000})
		spoil(b.Log)
		x.check()
	}
	found := open(t, x.d)
	spoil(found.State().Log)
	x.check()
	checkState(t, "P0.3: another Keep", found, x.m.state())
}

func checkSame(t *testing.T, got, want keep.State) {
	t.Helper()
	if !same(got, want) {
		t.Errorf("P0.3: %s, not %s", short(got), short(want))
	}
}

// A state that was told does not change with what is written behind it.
func TestToldStatesStay(t *testing.T) {
	x := newBoth(t)
	x.write(entries(1, 1, 1, 1, 1))
	a := x.k.State()
	x.write(entries(2, 5))
	b := x.k.State()
	x.snap(api.Snap{Index: 1, Term: 1})
	c := x.k.State()
	x.write(entries(2, 9, 9))
	x.snap(api.Snap{Index: 3, Term: 9, Data: "d"})
	checkSame(t, a, keep.State{Log: entries(1, 1, 1, 1, 1)})
	checkSame(t, b, keep.State{Log: append(entries(1, 1), entries(2, 5)...)})
	checkSame(t, c, keep.State{S: api.Snap{Index: 1, Term: 1}, Log: entries(2, 5)})
}

func TestEachGoesItsOwnWay(t *testing.T) {
	x := newBoth(t)
	x.write(entries(1, 1, 1))
	x.hard(api.Hard{Term: 1})
	y, z := x.crash(0), x.crash(x.d.Loose("state"))
	y.write(entries(1, 7))
	z.snap(api.Snap{Index: 2, Term: 1, Data: "z"})
	x.write(entries(3, 2))
	for _, each := range []both{x, y, z} {
		each.check()
		each.crashEach()
	}
}

func TestTheSameAnswerAgain(t *testing.T) {
	run := func() (string, string) {
		p := picker(9)
		x := newBoth(t)
		for range 80 {
			x = p.step(x, 30)
		}
		return short(x.k.State()), x.m.file
	}
	s, file := run()
	for range 3 {
		if a, b := run(); a != s || b != file {
			t.Errorf("P0.5: another answer: %s, not %s", a, s)
		}
	}
}
