package orphans

import (
	"iter"
	"slices"

	"larder/api"
	"larder/index"
)

// family is a set of packages. Its members are numbered from 0 on, in the set's order.
type family struct {
	set      []int // their places in the universe, rising
	packages []api.Package
	table    *index.Table // of the members alone, so that nobody else satisfies
}

// familyOf makes the family of a set, or tells what is wrong with it or its roots.
func familyOf(u []api.Package, set, roots []int) (family, api.Errno) {
	if _, e := index.Check(u); e != api.OK || !isSet(u, set) {
		return family{}, api.ErrOrpSet
	}
	f := family{set: set}
	if !f.hasRoots(roots) {
		return family{}, api.ErrOrpRoot
	}
	for _, place := range set {
		f.packages = append(f.packages, u[place])
	}
	// No error: a part of a universe is one, too.
	f.table, _ = index.New(f.packages)
	return f, api.OK
}

// isSet tells whether these are places of a universe, rising, no two of one name: since names never fall in a universe, just if their names rise.
func isSet(u []api.Package, set []int) bool {
	for i, place := range set {
		if place < 0 || place >= len(u) || i > 0 && u[set[i-1]].Name >= u[place].Name {
			return false
		}
	}
	return true
}

// hasRoots tells whether these are places of the set, rising.
func (f family) hasRoots(roots []int) bool {
	for i, root := range roots {
		if _, is := f.member(root); !is || i > 0 && roots[i-1] >= root {
			return false
		}
	}
	return true
}

// member tells the number of the member at a place of the universe.
func (f family) member(place int) (int, bool) { return slices.BinarySearch(f.set, place) }

// places tells the places of members in the universe.
func (f family) places(members []int) []int {
	list := make([]int, len(members))
	for i, member := range members {
		list[i] = f.set[member]
	}
	return list
}

// choose tells the members of which something is so, rising.
func (f family) choose(is func(member int) bool) []int {
	var list []int
	for member := range f.packages {
		if is(member) {
			list = append(list, member)
		}
	}
	return list
}

// atoms goes through the atoms of a member's Depends and Pre-Depends, each once: whoever meets one satisfies a clause.
func (f family) atoms(member int) iter.Seq[api.Atom] {
	clauses := slices.Concat(f.packages[member].Depends, f.packages[member].PreDepends)
	return func(yield func(api.Atom) bool) {
		told := make(map[api.Atom]struct{})
		for _, a := range slices.Concat(clauses...) {
			if _, again := told[a]; again {
				continue
			}
			told[a] = struct{}{}
			if !yield(a) {
				return
			}
		}
	}
}
