package keep

import (
	"slices"
	"strings"

	"packhorse/api"
	"packhorse/wal"
)

// State is what a server must not forget: its Hard, its snapshot, and the entries of its log behind that.
type State struct {
	H   api.Hard
	S   api.Snap
	Log []api.Entry
}

// read answers the state that stands in a file's bytes, how many of them it takes, and whether they are not spoilt.
func read(b []byte) (State, int, bool) {
	snap, head, err := wal.GetSnap(b)
	if err != api.OK {
		return State{}, 0, false
	}
	records, size, ok := wal.Scan(b[head:])
	if !ok {
		return State{}, 0, false
	}
	s := State{S: snap}
	for _, r := range records {
		if !s.take(r) {
			return State{}, 0, false
		}
	}
	return s, head + size, len(s.Log) <= api.MaxLog
}

// take plays a record, and says whether it may come behind those ahead of it.
func (s *State) take(r wal.Record) bool {
	if r.Hard {
		s.H = r.H
		return true
	}
	if !s.fits(r.E.Index) {
		return false
	}
	s.put(r.E)
	return true
}

// whole answers the bytes of a file for s that begins with its snapshot's, head.
func whole(head []byte, s State) []byte {
	b := append(head, wal.Encode(wal.Record{Hard: true, H: s.H})...)
	return addEntries(b, s.Log)
}

// addEntries puts the entries' records behind b.
func addEntries(b []byte, l []api.Entry) []byte {
	for _, e := range l {
		b = append(b, wal.Encode(wal.Record{E: e})...)
	}
	return b
}

// last answers the last entry's Index, or the snapshot's.
func (s *State) last() int64 { return s.S.Index + int64(len(s.Log)) }

// fits says whether an entry of that Index may come: it stands behind the snapshot, and leaves no gap.
func (s *State) fits(index int64) bool {
	return index > s.S.Index && index <= s.last()+1
}

// check says what speaks against writing l, which has an entry.
func (s *State) check(l []api.Entry) api.Errno {
	if !s.fits(l[0].Index) || !inRow(l) {
		return api.ErrForm
	}
	if l[len(l)-1].Index-s.S.Index > api.MaxLog {
		return api.ErrFull
	}
	return api.OK
}

// inRow says whether entries may be, and are one behind the other.
func inRow(l []api.Entry) bool {
	for i, e := range l {
		// The first one is asked first whether it may be, so that no Index here is near where numbers wrap.
		if !wal.May(wal.Record{E: e}) || e.Index != l[0].Index+int64(i) {
			return false
		}
	}
	return true
}

// put lays entries, of which the first one fits and which are in a row, at their Indexes.
func (s *State) put(l ...api.Entry) {
	at := int(l[0].Index - s.S.Index - 1)
	s.Log = slices.Replace(s.Log, at, len(s.Log), l...)
}

// behind answers the entries that stay when snap, whose Index is not below the snapshot's, is the snapshot. Where it was made of another log than this one, none does.
func (s *State) behind(snap api.Snap) []api.Entry {
	gone := snap.Index - s.S.Index
	if gone > int64(len(s.Log)) || snap.Term != s.term(gone) {
		return nil
	}
	return slices.Clone(s.Log[gone:])
}

// term answers the Term of the n-th entry, or of the snapshot ahead of the first one.
func (s *State) term(n int64) int64 {
	if n == 0 {
		return s.S.Term
	}
	return s.Log[n-1].Term
}

func (s *State) copy() State {
	return State{H: s.H, S: copySnap(s.S), Log: copyEntries(s.Log)}
}

func copySnap(s api.Snap) api.Snap {
	s.Conf = strings.Clone(s.Conf)
	s.Data = strings.Clone(s.Data)
	return s
}

func copyEntries(l []api.Entry) []api.Entry {
	own := slices.Clone(l)
	for i, e := range own {
		own[i].Data = strings.Clone(e.Data)
	}
	return own
}
