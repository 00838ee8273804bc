package resolve

import (
	"cmp"
	"iter"
	"maps"
	"slices"

	"larder/api"
	"larder/relation"
)

// once gathers things from rows, each once, where it comes first.
func once[T comparable](rows ...iter.Seq[T]) []T {
	var list []T
	seen := make(map[T]struct{})
	for _, row := range rows {
		for x := range row {
			if _, known := seen[x]; !known {
				seen[x] = struct{}{}
				list = append(list, x)
			}
		}
	}
	return list
}

// firstOf tells of each thing which of n rows it stands in first.
func firstOf[T comparable](n int, row func(int) iter.Seq[T]) map[T]int {
	first := make(map[T]int)
	for i := range n {
		for x := range row(i) {
			if _, known := first[x]; !known {
				first[x] = i
			}
		}
	}
	return first
}

// inOrder tells the keys of a map, rising.
func inOrder[K cmp.Ordered, V any](things map[K]V) []K { return slices.Sorted(maps.Keys(things)) }

// directory tells who, of some packages of a universe, meets an atom.
type directory struct {
	u         []api.Package
	named     map[string][]int // the places of a name's packages
	providing map[string][]int // the places of those that provide a name
}

// directoryOf makes the directory of some packages, which keep their order.
func directoryOf(u []api.Package, places []int) directory {
	d := directory{u: u, named: make(map[string][]int), providing: make(map[string][]int)}
	for _, p := range places {
		d.named[u[p].Name] = append(d.named[u[p].Name], p)
		for _, name := range u[p].Provides {
			d.providing[name] = append(d.providing[name], p)
		}
	}
	return d
}

// fitting tells the packages of an atom's name that fit its constraint.
func (d directory) fitting(a api.Atom) []int {
	var places []int
	for _, p := range d.named[a.Name] {
		if relation.Fits(a, d.u[p].Version) {
			places = append(places, p)
		}
	}
	return places
}

// meeting goes through the packages that meet an atom: those of its name, then those that provide it. A package may come more than once.
func (d directory) meeting(a api.Atom) iter.Seq[int] {
	return func(yield func(int) bool) {
		for _, p := range d.fitting(a) {
			if !yield(p) {
				return
			}
		}
		if a.Op != api.OpAny {
			return
		}
		for _, p := range d.providing[a.Name] {
			if !yield(p) {
				return
			}
		}
	}
}

// satisfiers tells the packages that meet a clause, in the order of its atoms.
func (d directory) satisfiers(c api.Clause) []int {
	var rows []iter.Seq[int]
	for _, a := range c {
		rows = append(rows, d.meeting(a))
	}
	return once(rows...)
}

// isMet tells whether a package other than one meets an atom.
func (d directory) isMet(a api.Atom, but int) bool {
	for p := range d.meeting(a) {
		if p != but {
			return true
		}
	}
	return false
}
