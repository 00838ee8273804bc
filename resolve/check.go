package resolve

import (
	"slices"

	"larder/api"
	"larder/index"
	"larder/policy"
	"larder/relation"
)

// anyName is the name of a pin that speaks of all names.
const anyName = "*"

// Check tells why a request may not be.
func Check(u []api.Package, held []api.Held, r api.Request) api.Errno {
	if _, e := index.Check(u); e != api.OK {
		return api.ErrResUniverse
	}
	if !areHeld(u, held) {
		return api.ErrResHeld
	}
	if e := checkWords(r); e != api.OK {
		return e
	}
	switch {
	case r.Budget < 0 || r.Budget > api.MaxBudget:
		return api.ErrArg
	case installsAndRemoves(r.Wishes):
		return api.ErrResBoth
	case removesEssential(held, r.Wishes):
		return api.ErrResEssential
	case len(r.Pins) > api.MaxClauses || len(r.Holds) > api.MaxClauses:
		return api.ErrResMany
	}
	return api.OK
}

// areHeld tells whether these are packages of a universe with its stanzas, no two of one name, with marks.
func areHeld(u []api.Package, held []api.Held) bool {
	places := placesOf(u)
	names := make(map[string]struct{}, len(held))
	for _, h := range held {
		p, known := places[keyOf(h.Package)]
		_, twice := names[h.Name]
		if !known || twice || !isSame(u[p], h.Package) || h.Mark != api.MarkManual && h.Mark != api.MarkAuto {
			return false
		}
		names[h.Name] = struct{}{}
	}
	return true
}

// placesOf tells where each package stands.
func placesOf(u []api.Package) map[api.Key]int {
	places := make(map[api.Key]int, len(u))
	for p := range u {
		places[keyOf(u[p])] = p
	}
	return places
}

// isSame tells whether two stanzas of one package say the same.
func isSame(a, b api.Package) bool {
	return a.Essential == b.Essential &&
		slices.EqualFunc(a.Depends, b.Depends, slices.Equal[api.Clause]) &&
		slices.EqualFunc(a.PreDepends, b.PreDepends, slices.Equal[api.Clause]) &&
		slices.Equal(a.Conflicts, b.Conflicts) &&
		slices.Equal(a.Provides, b.Provides) &&
		slices.Equal(a.Files, b.Files) &&
		a.Archive == b.Archive && a.Size == b.Size && a.Sum == b.Sum && a.Summary == b.Summary
}

// checkWords tells the first error of the wishes, then of the pins, then of the holds.
func checkWords(r api.Request) api.Errno {
	for _, wish := range r.Wishes {
		if e := checkWish(wish); e != api.OK {
			return e
		}
	}
	for _, pin := range r.Pins {
		if e := checkPin(pin); e != api.OK {
			return e
		}
	}
	for _, name := range r.Holds {
		if relation.CheckName(name) != api.OK {
			return api.ErrResName
		}
	}
	return api.OK
}

func checkWish(wish api.Wish) api.Errno {
	switch wish.Kind {
	case api.WishInstall, api.WishRemove:
		return checkAtom(wish.Atom)
	case api.WishUpgrade:
		if wish.Atom == (api.Atom{}) {
			return api.OK
		}
	}
	return api.ErrArg
}

func checkPin(pin api.Pin) api.Errno {
	// policy knows which priorities may be.
	if policy.CheckPin(api.Pin{Name: anyName, Priority: pin.Priority}) != api.OK {
		return api.ErrArg
	}
	a := api.Atom{Name: pin.Name, Op: pin.Op, Version: pin.Version}
	if a.Name == anyName {
		// An atom has a name; any one will do.
		a.Name = "any"
	}
	return checkAtom(a)
}

// checkAtom tells what is wrong with an atom: the operator is asked first here.
func checkAtom(a api.Atom) api.Errno {
	switch {
	case a.Op < api.OpAny || a.Op > api.OpMore:
		return api.ErrArg
	case relation.CheckName(a.Name) != api.OK:
		return api.ErrResName
	case relation.Check(a) != api.OK:
		return api.ErrResVersion
	}
	return api.OK
}

// installsAndRemoves tells whether one name is in a wish of either kind.
func installsAndRemoves(wishes []api.Wish) bool {
	removed := namesIn(wishes, api.WishRemove)
	for name := range namesIn(wishes, api.WishInstall) {
		if _, both := removed[name]; both {
			return true
		}
	}
	return false
}

// namesIn tells the names in the wishes of one kind.
func namesIn(wishes []api.Wish, kind int) map[string]struct{} {
	names := make(map[string]struct{})
	for _, wish := range wishes {
		if wish.Kind == kind {
			names[wish.Atom.Name] = struct{}{}
		}
	}
	return names
}

// removesEssential tells whether a wish takes an installed Essential package away.
func removesEssential(held []api.Held, wishes []api.Wish) bool {
	essential := make(map[string]api.Key)
	for _, h := range held {
		if h.Essential {
			essential[h.Name] = keyOf(h.Package)
		}
	}
	for _, wish := range wishes {
		k, is := essential[wish.Atom.Name]
		if wish.Kind == api.WishRemove && is && relation.Fits(wish.Atom, k.Version) {
			return true
		}
	}
	return false
}
