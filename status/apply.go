package status

import (
	"larder/api"
)

// Fits tells whether a commit fits a state.
func Fits(s api.State, c api.Commit) api.Errno {
	_, e := behind(s, c)
	return e
}

// Apply tells the state behind a commit.
func Apply(s api.State, c api.Commit) (api.State, api.Errno) {
	l, e := behind(s, c)
	if e != api.OK {
		return api.State{}, e
	}
	return l.state(), api.OK
}

// behind tells the ledger of a state with a commit entered.
func behind(s api.State, c api.Commit) (*ledger, api.Errno) {
	if e := Check(s); e != api.OK {
		return nil, e
	}
	if e := CheckCommit(c); e != api.OK {
		return nil, e
	}
	if s.Seq == api.MaxSeq {
		return nil, api.ErrStaSeq
	}
	l := ledgerOf(s)
	return l, l.enter(c)
}
