package status

import (
	"larder/api"
	"larder/journal"
	"larder/store"
)

// The database's files.
const (
	fileStatus  = "d/status"
	fileNew     = "d/status.new"
	fileJournal = "d/journal"
)

// Load reads the state and the last commit from a store; nothing is changed.
func Load(d *store.Store) (api.State, api.Commit, bool, api.Errno) {
	s, e := checkpoint(d)
	if e != api.OK {
		return api.State{}, api.Commit{}, false, e
	}
	j, e := journal.Open(d, fileJournal)
	if e != api.OK {
		return api.State{}, api.Commit{}, false, e
	}
	l := ledgerOf(s)
	last, is, e := l.replay(j.Bodies())
	if e != api.OK {
		return api.State{}, api.Commit{}, false, e
	}
	return l.state(), last, is, api.OK
}

// checkpoint reads the state that d/status tells.
func checkpoint(d *store.Store) (api.State, api.Errno) {
	data, e := d.Read(fileStatus)
	if e == api.ErrStoNone {
		return api.State{}, api.OK
	}
	if e != api.OK {
		return api.State{}, e
	}
	bodies, whole := journal.Decode(data)
	if len(bodies) != 1 || whole != len(data) {
		return api.State{}, api.ErrStaFile
	}
	s, e := Decode(bodies[0])
	if e != api.OK {
		return api.State{}, api.ErrStaFile
	}
	return s, api.OK
}

// replay enters the commits of a journal that the state has not taken up, and tells the last one of all.
func (l *ledger) replay(bodies [][]byte) (last api.Commit, is bool, e api.Errno) {
	for _, body := range bodies {
		c, e := DecodeCommit(body)
		if e != api.OK {
			return api.Commit{}, false, e
		}
		if is && c.Seq != last.Seq+1 {
			return api.Commit{}, false, api.ErrStaFit
		}
		if c.Seq > l.seq {
			e = l.enter(c)
		}
		if e != api.OK {
			return api.Commit{}, false, e
		}
		last, is = c, true
	}
	return last, is, api.OK
}

// Save makes a checkpoint.
func Save(d *store.Store, s api.State) api.Errno {
	if d == nil {
		return api.ErrArg
	}
	body, e := Encode(s)
	if e != api.OK {
		return e
	}
	frame, e := journal.Encode(body)
	if e != api.OK {
		return e
	}
	if e := lay(d, frame); e != api.OK {
		return e
	}
	if e := d.Rename(fileNew, fileStatus); e != api.OK {
		return e
	}
	if e := d.Sync(); e != api.OK {
		return e
	}
	return removeFile(d, fileJournal)
}

// lay makes the new checkpoint's file durable, under a name that Load does not look at.
func lay(d *store.Store, frame []byte) api.Errno {
	e := d.Write(fileNew, frame)
	if e == api.OK {
		return d.Sync()
	}
	if e != api.ErrStoFull {
		return e
	}
	if e := removeFile(d, fileNew); e != api.OK {
		return e
	}
	return api.ErrStoFull
}

// removeFile takes a file away for good, if it is there.
func removeFile(d *store.Store, name string) api.Errno {
	e := d.Remove(name)
	if e == api.ErrStoNone {
		return api.OK
	}
	if e != api.OK {
		return e
	}
	return d.Sync()
}
