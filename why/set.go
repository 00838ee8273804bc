package why

import (
	"cmp"
	"maps"
	"slices"

	"larder/api"
	"larder/relation"
)

// nobody is the place of no package.
const nobody = -1

// set is an installed set, whose packages are told by their places in the list.
type set struct {
	held      []api.Held
	at        map[string]int   // where the package of a name stands
	answering map[string][]int // who has a name or provides it: places, by rising names
}

// setOf makes the set of a list, or tells that this is none.
func setOf(held []api.Held) (set, api.Errno) {
	s := set{held, make(map[string]int, len(held)), make(map[string][]int, len(held))}
	for place := range held {
		if _, twice := s.at[held[place].Name]; twice {
			return set{}, api.ErrWhyTwice
		}
		s.at[held[place].Name] = place
	}
	for _, name := range slices.Sorted(maps.Keys(s.at)) {
		place := s.at[name]
		s.answer(name, place)
		for _, provided := range held[place].Provides {
			s.answer(provided, place)
		}
	}
	return s, api.OK
}

// answer notes who has or provides a name; but once, since a package may tell one name several times.
func (s set) answer(name string, place int) {
	list := s.answering[name]
	if len(list) == 0 || list[len(list)-1] != place {
		s.answering[name] = append(list, place)
	}
}

// find makes the set of a list, and tells where in it the package of a name stands.
func find(held []api.Held, name string) (set, int, api.Errno) {
	s, e := setOf(held)
	if e != api.OK {
		return set{}, 0, e
	}
	place, is := s.at[name]
	if !is {
		return set{}, 0, api.ErrWhyNone
	}
	return s, place, api.OK
}

// leansOn tells on whom a package leans: places, rising.
func (s set) leansOn(place int) []int {
	var list []int
	lean := func(clauses []api.Clause, but int) {
		for _, c := range clauses {
			if first := s.first(c, but); first != nobody && first != place {
				list = append(list, first)
			}
		}
	}
	lean(s.held[place].Depends, nobody)
	// Only of Depends a package may be its own satisfier.
	lean(s.held[place].PreDepends, place)
	slices.Sort(list)
	return slices.Compact(list)
}

// first tells the first satisfier of a clause but one package; nobody, if there is none.
func (s set) first(c api.Clause, but int) int {
	for _, a := range c {
		for _, place := range s.asked(a) {
			if place != but && relation.Meets(a, s.held[place].Package) {
				return place
			}
		}
	}
	return nobody
}

// asked tells who may meet an atom: places, by rising names. With a constraint that is nobody but the package of its name, however many provide it.
func (s set) asked(a api.Atom) []int {
	if a.Op == api.OpAny {
		return s.answering[a.Name]
	}
	if place, is := s.at[a.Name]; is {
		return []int{place}
	}
	return nil
}

// byNames puts places in order by the names of their packages.
func (s set) byNames(places []int) []int {
	slices.SortFunc(places, func(a, b int) int { return cmp.Compare(s.held[a].Name, s.held[b].Name) })
	return places
}

func (s set) packages() []api.Package {
	list := make([]api.Package, len(s.held))
	for place := range s.held {
		list[place] = s.held[place].Package
	}
	return list
}

// keys tells which packages stand at some places.
func (s set) keys(places []int) []api.Key {
	list := make([]api.Key, len(places))
	for i, place := range places {
		list[i] = api.Key{Name: s.held[place].Name, Version: s.held[place].Version}
	}
	return list
}
