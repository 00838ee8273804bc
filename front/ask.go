package front

import (
	"larder/api"
	"larder/audit"
	"larder/index"
	"larder/installed"
	"larder/tree"
	"larder/why"
)

// state tells what is installed, as far as an installer knows; that of none is without anything.
func (f *Front) state() api.State {
	if f.isNone() {
		return api.State{}
	}
	return f.exec.State()
}

// Query tells the state.
func (f *Front) Query() []api.Held { return f.state().Held }

// Seq tells the number of the last commit.
func (f *Front) Seq() int { return f.state().Seq }

// History tells the last commits.
func (f *Front) History() []api.Entry { return f.state().Past }

// Orphans tells what nobody wants any more.
func (f *Front) Orphans(holds []string) []api.Key {
	held := f.state().Held
	var keys []api.Key
	for _, h := range at(held, orphaned(held, holds)) {
		keys = append(keys, installed.Key(h))
	}
	return keys
}

// Audit holds the tree against the state.
func (f *Front) Audit() ([]api.Wrong, api.Errno) {
	if f.isNone() {
		return nil, api.ErrArg
	}
	return audit.Check(f.store, f.state().Held)
}

// Owner tells whose a path is.
func (f *Front) Owner(path string) (api.Key, bool) { return audit.Owner(f.state().Held, path) }

// Paths tells the tree's paths.
func (f *Front) Paths() []string {
	if f.isNone() {
		return nil
	}
	// A store without power has none to tell.
	files, _ := tree.Look(f.store)
	var paths []string
	for _, file := range files {
		paths = append(paths, file.Path)
	}
	return paths
}

// Read tells the bytes of a file of the tree.
func (f *Front) Read(path string) ([]byte, api.Errno) {
	if f.isNone() {
		return nil, api.ErrArg
	}
	if f.store.Dead() {
		return nil, api.ErrStoDead
	}
	name, e := tree.Name(path)
	if e != api.OK {
		return nil, api.ErrFrontPath
	}
	data, e := f.store.Read(name)
	if e != api.OK {
		return nil, api.ErrFrontPath
	}
	return data, api.OK
}

// Chain tells why a package is there.
func (f *Front) Chain(name string) ([]api.Key, api.Errno) {
	if f.isNone() {
		return nil, api.ErrArg
	}
	return why.Chain(f.state().Held, name)
}

// Blame tells why a request can't be met.
func (f *Front) Blame(text []byte, r api.Request) ([]api.Rule, int, api.Errno) {
	if f.isNone() {
		return nil, 0, api.ErrArg
	}
	ps, _, e := index.Parse(text)
	if e != api.OK {
		return nil, 0, e
	}
	held := f.state().Held
	u, e := index.Universe(ps, held)
	if e != api.OK {
		return nil, 0, e
	}
	return why.Blame(u, held, r)
}
