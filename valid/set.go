package valid

import (
	"iter"
	"slices"

	"larder/api"
	"larder/relation"
)

// nobody is the place of no package.
const nobody = -1

// set is a list of packages, with who of it has a name and who provides one. All its lists of places rise.
type set struct {
	list     []api.Package
	named    map[string][]int
	provided map[string][]int
}

func setOf(list []api.Package) set {
	s := set{list: list, named: make(map[string][]int), provided: make(map[string][]int)}
	for p := range list {
		s.named[list[p].Name] = append(s.named[list[p].Name], p)
		for _, name := range list[p].Provides {
			s.provided[name] = append(s.provided[name], p)
		}
	}
	return s
}

// satisfiers goes through the places of the packages that meet an atom. One that has the name and provides it, or tells it several times, comes as often.
func (s set) satisfiers(a api.Atom) iter.Seq[int] {
	return func(yield func(int) bool) {
		for _, places := range [...][]int{s.named[a.Name], s.provided[a.Name]} {
			for _, p := range places {
				if relation.Meets(a, s.list[p]) && !yield(p) {
					return
				}
			}
		}
	}
}

// need is a clause of a package.
type need struct {
	kind   int // the fault that it is, if it is not met
	index  int
	clause api.Clause
	but    int // whose meeting it counts for nothing
}

// needs goes through the clauses of a package: those of Depends, then those of Pre-Depends.
func (s set) needs(p int) iter.Seq[need] {
	return func(yield func(need) bool) {
		for i, c := range s.list[p].Depends {
			if !yield(need{api.FaultDepends, i, c, nobody}) {
				return
			}
		}
		for i, c := range s.list[p].PreDepends {
			if !yield(need{api.FaultPre, i, c, p}) {
				return
			}
		}
	}
}

// isMet tells whether a package of a part meets a need.
func (s set) isMet(n need, in part) bool {
	for _, a := range n.clause {
		for p := range s.satisfiers(a) {
			if in[p] && p != n.but {
				return true
			}
		}
	}
	return false
}

// isWhole tells whether all needs of a package are met in a part.
func (s set) isWhole(p int, in part) bool {
	for n := range s.needs(p) {
		if !s.isMet(n, in) {
			return false
		}
	}
	return true
}

// loses tells whether a package has a need that is met in one part and not in another.
func (s set) loses(p int, ahead, behind part) bool {
	for n := range s.needs(p) {
		if s.isMet(n, ahead) && !s.isMet(n, behind) {
			return true
		}
	}
	return false
}

// grants tells whether the set meets a wish.
func (s set) grants(w api.Wish) bool {
	switch w.Kind {
	case api.WishInstall:
		for range s.satisfiers(w.Atom) {
			return true
		}
		return false
	case api.WishRemove:
		return !slices.ContainsFunc(s.named[w.Atom.Name], func(p int) bool { return relation.Fits(w.Atom, s.list[p].Version) })
	}
	return true
}
