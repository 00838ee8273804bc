package valid

import (
	"slices"

	"larder/api"
)

// spot is where a file stands: in which package, at which place of its Files.
type spot struct{ who, file int }

// check is a set with all that its faults are found by.
type check struct {
	set
	all   part
	first map[string]spot // where a path stands first
}

func checkOf(s []api.Package) check {
	c := check{set: setOf(s), all: allOf(s), first: make(map[string]spot)}
	for p := range s {
		for i, f := range s[p].Files {
			if _, known := c.first[f.Path]; !known {
				c.first[f.Path] = spot{p, i}
			}
		}
	}
	return c
}

// faultsAt tells the faults that are found in one package.
func (c check) faultsAt(p int) []api.Fault {
	return slices.Concat(c.twice(p), c.unmet(p), c.conflicts(p), c.paths(p))
}

// fault tells a fault of a package, perhaps with another one.
func (c check) fault(kind, who, index, other int) api.Fault {
	f := api.Fault{Kind: kind, Who: keyOf(c.list[who]), Index: index}
	if other != nobody {
		f.Other = keyOf(c.list[other])
	}
	return f
}

func (c check) twice(p int) []api.Fault {
	var faults []api.Fault
	for _, q := range c.named[c.list[p].Name] {
		if q >= p {
			break
		}
		faults = append(faults, c.fault(api.FaultTwice, p, q, q))
	}
	return faults
}

func (c check) unmet(p int) []api.Fault {
	var faults []api.Fault
	for n := range c.needs(p) {
		if !c.isMet(n, c.all) {
			faults = append(faults, c.fault(n.kind, p, n.index, nobody))
		}
	}
	return faults
}

func (c check) conflicts(p int) []api.Fault {
	var faults []api.Fault
	for i, a := range c.list[p].Conflicts {
		for _, q := range slices.Compact(slices.Sorted(c.satisfiers(a))) {
			if q != p {
				faults = append(faults, c.fault(api.FaultConflict, p, i, q))
			}
		}
	}
	return faults
}

func (c check) paths(p int) []api.Fault {
	var faults []api.Fault
	for i, f := range c.list[p].Files {
		if at := c.first[f.Path]; at != (spot{p, i}) {
			faults = append(faults, c.fault(api.FaultPath, p, i, at.who))
		}
	}
	return faults
}
