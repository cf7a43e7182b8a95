package wal

import (
	"packhorse/api"
	"packhorse/num"
)

// reader reads one part of a frame's body behind the other. Behind a part that can't be read it is bad, and all parts are zero values.
type reader struct {
	rest []byte
	bad  bool
}

// done says whether all parts could be read, and nothing stands behind them.
func (r *reader) done() bool { return !r.bad && len(r.rest) == 0 }

// took passes over a part's bytes, or all that is left where the part has an error.
func (r *reader) took(used int, err api.Errno) {
	if err != api.OK {
		r.bad = true
		used = len(r.rest)
	}
	r.rest = r.rest[used:]
}

func (r *reader) number() int64 {
	n, used, err := num.Get(r.rest)
	r.took(used, err)
	return n
}

func (r *reader) text() string {
	s, used, err := num.GetText(r.rest)
	r.took(used, err)
	return s
}

func (r *reader) hard() api.Hard {
	return api.Hard{Term: r.number(), Vote: int(r.number())}
}

func (r *reader) entry() api.Entry {
	return api.Entry{Index: r.number(), Term: r.number(), Kind: int(r.number()), Data: r.text()}
}

// head answers a snapshot without its Data, and how many bytes that has.
func (r *reader) head() (api.Snap, int) {
	s := api.Snap{Index: r.number(), Term: r.number(), Conf: r.text()}
	return s, int(r.number())
}
