package index

import (
	"cmp"
	"slices"

	"larder/api"
	"larder/control"
)

// Sorted puts packages in order.
func Sorted(ps []api.Package) ([]api.Package, api.Errno) {
	if len(ps) > api.MaxUniverse {
		return nil, api.ErrIdxMany
	}
	for _, p := range ps {
		if e := control.Check(p); e != api.OK {
			return nil, e
		}
	}
	list := copyAll(ps)
	sortBy(list, nameOf, versionOf)
	for i := range list {
		if standing(list, i) != api.OK {
			return nil, api.ErrIdxTwice
		}
	}
	return list, api.OK
}

// Check tells whether packages are an index, or the first that is wrong.
func Check(ps []api.Package) (int, api.Errno) {
	if len(ps) > api.MaxUniverse {
		return api.MaxUniverse, api.ErrIdxMany
	}
	for i, p := range ps {
		if e := control.Check(p); e != api.OK {
			return i, e
		}
		if e := standing(ps, i); e != api.OK {
			return i, e
		}
	}
	return 0, api.OK
}

// standing tells whether the package at a place may stand behind the one ahead of it.
func standing(ps []api.Package, i int) api.Errno {
	if i == 0 {
		return api.OK
	}
	switch orderBy(ps[i-1], ps[i], nameOf, versionOf) {
	case 0:
		return api.ErrIdxTwice
	case 1:
		return api.ErrIdxOrder
	}
	return api.OK
}

// sortBy puts things in order by what the marks tell of them, the first mark counting most.
func sortBy[T any, M cmp.Ordered](list []T, marks ...func(T) M) {
	slices.SortFunc(list, func(a, b T) int { return orderBy(a, b, marks...) })
}

// orderBy tells which of two things comes ahead: -1, 0, 1.
func orderBy[T any, M cmp.Ordered](a, b T, marks ...func(T) M) int {
	for _, mark := range marks {
		if d := cmp.Compare(mark(a), mark(b)); d != 0 {
			return d
		}
	}
	return 0
}

func nameOf(p api.Package) string { return p.Name }

func versionOf(p api.Package) string { return p.Version }

// copyAll tells the same packages in memory of their own.
func copyAll(ps []api.Package) []api.Package {
	list := make([]api.Package, len(ps))
	for i, p := range ps {
		list[i] = copyOf(p)
	}
	return list
}

func copyOf(p api.Package) api.Package {
	p.Depends = copyClauses(p.Depends)
	p.PreDepends = copyClauses(p.PreDepends)
	p.Conflicts = slices.Clone(p.Conflicts)
	p.Provides = slices.Clone(p.Provides)
	p.Files = slices.Clone(p.Files)
	return p
}

func copyClauses(clauses []api.Clause) []api.Clause {
	list := slices.Clone(clauses)
	for i, c := range list {
		list[i] = slices.Clone(c)
	}
	return list
}
