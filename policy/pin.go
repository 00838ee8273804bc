package policy

import (
	"larder/api"
	"larder/relation"
)

// anyName is the name of a pin that speaks of all names.
const anyName = "*"

// Priorities.
const (
	mostPriority   = 10000 // and, below 0, the least
	ofInstalled    = 100   // where no pin speaks of a package
	ofNotInstalled = 500   // likewise
	leastBack      = 1000  // from here on an earlier version is no step back
)

// CheckPin tells whether a pin may be.
func CheckPin(p api.Pin) api.Errno {
	a := atomOf(p)
	if p.Name == anyName {
		// relation asks for a name; any one will do.
		a.Name = "any"
	}
	if relation.Check(a) != api.OK || p.Priority < -mostPriority || p.Priority > mostPriority {
		return api.ErrPolPin
	}
	return api.OK
}

// atomOf tells a pin's name and constraint.
func atomOf(p api.Pin) api.Atom { return api.Atom{Name: p.Name, Op: p.Op, Version: p.Version} }

// priorityOf tells the priority of a package that is installed or not.
func priorityOf(k api.Key, installed bool, pins []api.Pin) int {
	for _, p := range pins {
		if speaks(p, k) {
			return p.Priority
		}
	}
	if installed {
		return ofInstalled
	}
	return ofNotInstalled
}

// speaks tells whether a pin speaks of a package.
func speaks(p api.Pin, k api.Key) bool {
	return (p.Name == anyName || p.Name == k.Name) && relation.Fits(atomOf(p), k.Version)
}
