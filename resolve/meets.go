package resolve

import (
	"slices"

	"larder/api"
)

// nobody is the place of no package.
const nobody = -1

// Meets tells whether a set is what is asked, without any search.
func Meets(u []api.Package, held []api.Held, r api.Request, set []int) (bool, api.Errno) {
	if e := Check(u, held, r); e != api.OK {
		return false, e
	}
	if !arePlaces(len(u), set) {
		return false, api.ErrArg
	}
	s := state{directory: directoryOf(u, set), places: set}
	return s.isValid() && s.hasWishes(held, r.Wishes) && s.hasHolds(held, r.Holds), api.OK
}

// arePlaces tells whether these are places of n packages, rising.
func arePlaces(n int, set []int) bool {
	last := nobody
	for _, p := range set {
		if p <= last || p >= n {
			return false
		}
		last = p
	}
	return true
}

// state is a set of packages.
type state struct {
	directory
	places []int
}

// isValid tells whether no two packages are of one name and the set is whole in itself.
func (s state) isValid() bool {
	for _, places := range s.named {
		if len(places) > 1 {
			return false
		}
	}
	for _, p := range s.places {
		if !s.isWhole(p) {
			return false
		}
	}
	return !s.sharesPath()
}

// isWhole tells whether a package has what it needs, and nothing that it conflicts with.
func (s state) isWhole(p int) bool {
	for _, c := range s.u[p].Depends {
		if !s.hasOne(c, nobody) {
			return false
		}
	}
	for _, c := range s.u[p].PreDepends {
		if !s.hasOne(c, p) {
			return false
		}
	}
	return !s.hasOne(s.u[p].Conflicts, p)
}

// hasOne tells whether a package of the set other than one meets one of some atoms.
func (s state) hasOne(atoms []api.Atom, but int) bool {
	return slices.ContainsFunc(atoms, func(a api.Atom) bool { return s.isMet(a, but) })
}

// sharesPath tells whether two packages have one path.
func (s state) sharesPath() bool {
	paths := make(map[string]int)
	for _, p := range s.places {
		for _, f := range s.u[p].Files {
			if _, twice := paths[f.Path]; twice {
				return true
			}
			paths[f.Path] = p
		}
	}
	return false
}

// hasWishes tells whether the set has what the wishes ask.
func (s state) hasWishes(held []api.Held, wishes []api.Wish) bool {
	for _, wish := range wishes {
		switch wish.Kind {
		case api.WishInstall:
			if !s.isMet(wish.Atom, nobody) {
				return false
			}
		case api.WishRemove:
			if len(s.fitting(wish.Atom)) > 0 {
				return false
			}
		}
	}
	return !hasUpgrade(wishes) || s.hasNames(held, namesIn(wishes, api.WishRemove))
}

// hasNames tells whether the set has some package of each installed name but those removed.
func (s state) hasNames(held []api.Held, removed map[string]struct{}) bool {
	for _, h := range held {
		if _, gone := removed[h.Name]; !gone && len(s.named[h.Name]) == 0 {
			return false
		}
	}
	return true
}

// hasHolds tells whether the set has, of each hold, the very package that is installed.
func (s state) hasHolds(held []api.Held, holds []string) bool {
	for _, h := range held {
		isThere := func(p int) bool { return s.u[p].Version == h.Version }
		if slices.Contains(holds, h.Name) && !slices.ContainsFunc(s.named[h.Name], isThere) {
			return false
		}
	}
	return true
}
