package store

import "slices"

// operation is what a crash may take: a change of one or two files.
type operation interface {
	// on does it to a directory: nothing, where the file that it needs is not there.
	on(f *files)
	// names tells which files it may change.
	names() []string
}

type writing struct {
	name string
	data []byte
}

type appending struct {
	name string
	data []byte
}

type truncating struct {
	name string
	size int
}

type renaming struct{ from, to string }

type removing struct{ name string }

func (o writing) on(f *files) { f.put(o.name, o.data) }

// The bytes may go into room behind the file's own: what shares these is no longer than the file is, since what makes it shorter makes a copy.
func (o appending) on(f *files) {
	if data, ok := f.data[o.name]; ok {
		f.put(o.name, append(data, o.data...))
	}
}

func (o truncating) on(f *files) {
	if data, ok := f.data[o.name]; ok {
		f.put(o.name, first(data, o.size))
	}
}

func (o renaming) on(f *files) {
	if data, ok := f.data[o.from]; ok {
		f.drop(o.from)
		f.put(o.to, data)
	}
}

func (o removing) on(f *files) { f.drop(o.name) }

func (o writing) names() []string    { return []string{o.name} }
func (o appending) names() []string  { return []string{o.name} }
func (o truncating) names() []string { return []string{o.name} }
func (o renaming) names() []string   { return []string{o.from, o.to} }
func (o removing) names() []string   { return []string{o.name} }

// remnant tells what a crash leaves of an operation, by the number of its choice: the operation itself, one with fewer bytes, or nil.
func remnant(o operation, kept int) operation {
	if kept < 1 {
		return nil
	}
	if kept == 1 {
		return o
	}
	switch o := o.(type) {
	case writing:
		return writing{o.name, first(o.data, kept-2)}
	case appending:
		return appending{o.name, first(o.data, kept-2)}
	default:
		return nil
	}
}

// first is a copy of the first n bytes, or of all if these are fewer. (A piece of the bytes themselves would have room where bytes stand that may still be needed.)
func first(data []byte, n int) []byte { return slices.Clone(data[:min(n, len(data))]) }
