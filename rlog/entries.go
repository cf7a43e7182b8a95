package rlog

import (
	"math"
	"slices"
	"strings"

	"packhorse/api"
)

// mayNumber says whether n may be a number of a snapshot from which a log begins.
func mayNumber(n int64) bool { return n >= 0 && n <= api.MaxNum }

// follow says whether es may stand one behind the other, the first one behind an entry of that index and term.
func follow(index, term int64, es []api.Entry) bool {
	for _, e := range es {
		if index == math.MaxInt64 || e.Index != index+1 || e.Term < term {
			return false
		}
		index, term = e.Index, e.Term
	}
	return true
}

// from answers the log's own entries from i on: none, where i is not one of them.
func (l *Log) from(i int64) []api.Entry {
	if i <= l.snap.Index || i > l.Last() {
		return nil
	}
	return l.entries[i-l.snap.Index-1:]
}

// gap says whether entries from i on would leave a place free behind the last one.
func (l *Log) gap(i int64) bool {
	last := l.Last()
	return i > last && i-1 > last
}

// lacks says whether e is neither there nor one that the snapshot stands for.
func (l *Log) lacks(e api.Entry) bool {
	return e.Index > l.snap.Index && !l.Fits(e.Index, e.Term)
}

// put makes es, which follow one another, stand from the first one's Index on.
func (l *Log) put(es []api.Entry) bool {
	ahead := es[0].Index - 1
	stay := int(ahead - l.snap.Index)
	if term, _ := l.Term(ahead); es[0].Term < term || stay+len(es) > api.MaxLog {
		return false
	}
	l.entries = slices.Replace(l.entries, stay, len(l.entries), copyEntries(es)...)
	return true
}

// copySnap answers s in memory of its own.
func copySnap(s api.Snap) api.Snap {
	s.Conf = strings.Clone(s.Conf)
	s.Data = strings.Clone(s.Data)
	return s
}

// copyEntries answers l in memory of its own.
func copyEntries(l []api.Entry) []api.Entry {
	own := slices.Clone(l)
	for i, e := range own {
		own[i].Data = strings.Clone(e.Data)
	}
	return own
}
