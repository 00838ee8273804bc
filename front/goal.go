package front

import (
	"slices"

	"larder/api"
	"larder/index"
	"larder/installed"
	"larder/orphans"
	"larder/resolve"
)

// wanted tells what is to be installed for a request, with its marks.
func wanted(held []api.Held, text []byte, r api.Request) []api.Held {
	ps, line, e := index.Parse(text)
	must(e, errMalformed, api.Outcome{Why: e, Line: line})
	u, e := index.Universe(ps, held)
	must(e, errRefused, api.Outcome{Why: e})
	places, _, e := resolve.Target(u, held, r)
	must(e, whyNoTarget(e), api.Outcome{Why: e})
	return marked(held, at(u, places), r.Wishes)
}

// whyNoTarget tells what an error of resolve means.
func whyNoTarget(e api.Errno) error {
	switch e {
	case api.ErrResUnsat:
		return errUnsat
	case api.ErrResBudget:
		return errBudget
	}
	return errRefused
}

// at tells what stands at some places.
func at[T any](list []T, places []int) []T {
	var some []T
	for _, place := range places {
		some = append(some, list[place])
	}
	return some
}

// marked tells a target with its marks: what a wish asks for is wanted for its own sake; else a name keeps its mark; else it comes for the sake of others.
func marked(held []api.Held, target []api.Package, wishes []api.Wish) []api.Held {
	marks := map[string]int{}
	for _, h := range held {
		marks[h.Name] = h.Mark
	}
	for _, name := range asked(target, wishes) {
		marks[name] = api.MarkManual
	}
	goal := make([]api.Held, len(target))
	for i, p := range target {
		mark, known := marks[p.Name]
		if !known {
			mark = api.MarkAuto
		}
		goal[i] = api.Held{Package: p, Mark: mark}
	}
	return goal
}

// asked tells the names of the first satisfiers of install wishes in a target.
func asked(target []api.Package, wishes []api.Wish) []string {
	// No error: what resolve answers stands in order.
	table, _ := index.New(target)
	var names []string
	for _, w := range wishes {
		if w.Kind != api.WishInstall {
			continue
		}
		// No two of them have one name, so that they rise by names.
		satisfiers := at(target, table.Satisfiers(w.Atom))
		if slices.ContainsFunc(satisfiers, func(p api.Package) bool { return p.Name == w.Atom.Name }) {
			names = append(names, w.Atom.Name)
		} else if len(satisfiers) > 0 {
			names = append(names, satisfiers[0].Name)
		}
	}
	return names
}

// swept tells installed packages without those that nobody wants any more.
func swept(held []api.Held, holds []string) []api.Held {
	gone := orphaned(held, holds)
	var goal []api.Held
	for place, h := range held {
		if _, goes := slices.BinarySearch(gone, place); !goes {
			goal = append(goal, h)
		}
	}
	return goal
}

// orphaned tells the places of installed packages that nobody wants any more.
func orphaned(held []api.Held, holds []string) []int {
	names := orphans.Roots(held, holds)
	var set, roots []int
	for place, h := range held {
		set = append(set, place)
		if _, is := slices.BinarySearch(names, h.Name); is {
			roots = append(roots, place)
		}
	}
	// No error: what is installed stands in order, each name once.
	gone, _ := orphans.Orphans(installed.Packages(held), set, roots)
	return gone
}
