// Package copies makes things again in memory of their own: what a layer keeps and what it answers, the caller may write over.
package copies

import (
	"slices"

	"larder/api"
)

// State tells a state that shares no memory with another one, nor one of its lists with another list.
func State(s api.State) api.State {
	s.Held = Held(s.Held)
	s.Before = Held(s.Before)
	s.Past = Entries(s.Past)
	return s
}

// Held tells the same installed packages.
func Held(held []api.Held) []api.Held {
	return each(held, func(h api.Held) api.Held { return api.Held{Package: Package(h.Package), Mark: h.Mark} })
}

// Packages tells the same packages.
func Packages(ps []api.Package) []api.Package { return each(ps, Package) }

// Package tells the same package.
func Package(p api.Package) api.Package {
	p.Depends = each(p.Depends, slices.Clone[api.Clause])
	p.PreDepends = each(p.PreDepends, slices.Clone[api.Clause])
	p.Conflicts = slices.Clone(p.Conflicts)
	p.Provides = slices.Clone(p.Provides)
	p.Files = slices.Clone(p.Files)
	return p
}

// Entries tells the same entries.
func Entries(l []api.Entry) []api.Entry { return each(l, entry) }

func entry(e api.Entry) api.Entry {
	e.Out = slices.Clone(e.Out)
	e.In = slices.Clone(e.In)
	return e
}

// Blobs tells the same texts.
func Blobs(blobs []api.Blob) []api.Blob {
	return each(blobs, func(b api.Blob) api.Blob { return api.Blob{Name: b.Name, Data: slices.Clone(b.Data)} })
}

// each tells a list of copies, each made by itself.
func each[T any](list []T, again func(T) T) []T {
	list = slices.Clone(list)
	for i, x := range list {
		list[i] = again(x)
	}
	return list
}
