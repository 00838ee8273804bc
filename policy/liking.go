package policy

import (
	"cmp"

	"larder/api"
)

// standing is what decides how a package is liked among those of its name.
type standing struct {
	version  string
	priority int
	kept     bool // it is installed, and its name is held
	back     bool // it is a step back
}

// standingOf tells how a package of a name stands.
func standingOf(k api.Key, f family, pins []api.Pin) standing {
	installed := f.installed && k.Version == f.version
	priority := priorityOf(k, installed, pins)
	return standing{
		version:  k.Version,
		priority: priority,
		kept:     installed && f.held,
		back:     f.installed && order(k.Version, f.version) < 0 && priority < leastBack,
	}
}

// like holds two packages of one name against each other: below 0, if the first one is liked better.
func like(a, b standing) int {
	// What decides, the first that does.
	deciders := []func(a, b standing) int{byHold, byStepBack, byPriority, byOrder, byString}
	for _, decide := range deciders {
		if d := decide(a, b); d != 0 {
			return d
		}
	}
	return 0
}

func byHold(a, b standing) int { return ahead(a.kept, b.kept) }

func byStepBack(a, b standing) int { return ahead(!a.back, !b.back) }

func byPriority(a, b standing) int { return cmp.Compare(b.priority, a.priority) }

func byOrder(a, b standing) int { return order(b.version, a.version) }

func byString(a, b standing) int { return cmp.Compare(b.version, a.version) }

// ahead puts what is so ahead of what is not.
func ahead(a, b bool) int {
	switch {
	case a == b:
		return 0
	case a:
		return -1
	}
	return 1
}
