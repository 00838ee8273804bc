package order

import (
	"slices"

	"larder/api"
	"larder/index"
	"larder/valid"
)

// check tells what is wrong with a state and a target.
func check(s, t []api.Package) api.Errno {
	switch {
	case !isSet(s) || !isSet(t) || !agree(s, t):
		return api.ErrOrdSet
	case !valid.Valid(s):
		return api.ErrOrdState
	case !valid.Valid(t):
		return api.ErrOrdTarget
	}
	return api.OK
}

// isSet tells whether packages are in order, and no two of one name.
func isSet(list []api.Package) bool {
	if _, e := index.Check(list); e != api.OK {
		return false
	}
	for i := 1; i < len(list); i++ {
		if list[i-1].Name == list[i].Name {
			return false
		}
	}
	return true
}

// agree tells whether a state and a target have the same stanza of each package that is in both.
func agree(s, t []api.Package) bool {
	to := sideOf(t)
	for _, p := range s {
		if to.has(keyOf(p)) && !sameStanza(p, to.of(p.Name)) {
			return false
		}
	}
	return true
}

// sameStanza tells whether all else that one package says is what another one says.
func sameStanza(a, b api.Package) bool {
	return a.Essential == b.Essential && a.Summary == b.Summary &&
		a.Archive == b.Archive && a.Size == b.Size && a.Sum == b.Sum &&
		slices.EqualFunc(a.Depends, b.Depends, slices.Equal[api.Clause]) &&
		slices.EqualFunc(a.PreDepends, b.PreDepends, slices.Equal[api.Clause]) &&
		slices.Equal(a.Conflicts, b.Conflicts) && slices.Equal(a.Provides, b.Provides) && slices.Equal(a.Files, b.Files)
}

// follow tells the state behind a batch of a plan; false, if no plan has it there.
func follow(from, to side, b api.Batch) ([]api.Package, bool) {
	if len(b.Out)+len(b.In) == 0 || !fits(from, to, b) {
		return nil, false
	}
	going, coming := setOf(b.Out), to.only(b.In)
	for _, p := range coming {
		for _, c := range p.PreDepends {
			if !isMetAlong(from, going, c) {
				return nil, false
			}
		}
	}
	next := joined(from.without(b.Out), coming)
	// From a state with more packages no batch goes well, and it is no target.
	return next, len(next) <= api.MaxUniverse && valid.Valid(next)
}

// isMetAlong tells whether a clause is met by what is there and does not go.
func isMetAlong(from side, going map[api.Key]struct{}, c api.Clause) bool {
	for _, a := range c {
		for name := range from.satisfiers(a) {
			if _, goes := going[from.key(name)]; !goes {
				return true
			}
		}
	}
	return false
}

// fits tells whether a batch can go and come.
func fits(from, to side, b api.Batch) bool {
	if !rise(b.Out) || !rise(b.In) {
		return false
	}
	for _, k := range b.Out {
		if !from.has(k) {
			return false
		}
	}
	going := setOf(b.Out)
	for _, k := range b.In {
		_, goes := going[k]
		if goes || !to.has(k) || !isFree(from, k.Name, going) {
			return false
		}
	}
	return true
}

// isFree tells whether there is no package of a name, or it goes.
func isFree(from side, name string, going map[api.Key]struct{}) bool {
	if _, is := from.at[name]; !is {
		return true
	}
	_, goes := going[from.key(name)]
	return goes
}

// rise tells whether keys rise by name.
func rise(keys []api.Key) bool {
	for i := 1; i < len(keys); i++ {
		if keys[i-1].Name >= keys[i].Name {
			return false
		}
	}
	return true
}
