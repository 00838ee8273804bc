package index

import (
	"cmp"
	"slices"

	"larder/api"
	"larder/control"
	"larder/copies"
)

// Sorted puts packages in order.
func Sorted(ps []api.Package) ([]api.Package, api.Errno) {
	if len(ps) > api.MaxUniverse {
		return nil, api.ErrIdxMany
	}
	for _, p := range ps {
		if e := control.Check(p); e != api.OK {
			return nil, e
		}
	}
	list := copies.Packages(ps)
	sortBy(list, nameOf, versionOf)
	for i := range list {
		if standing(list, i) != api.OK {
			return nil, api.ErrIdxTwice
		}
	}
	return list, api.OK
}

// Check tells whether packages are an index, or the first that is wrong.
func Check(ps []api.Package) (int, api.Errno) {
	if len(ps) > api.MaxUniverse {
		return api.MaxUniverse, api.ErrIdxMany
	}
	for i, p := range ps {
		if e := control.Check(p); e != api.OK {
			return i, e
		}
		if e := standing(ps, i); e != api.OK {
			return i, e
		}
	}
	return 0, api.OK
}

// standing tells whether the package at a place may stand behind the one ahead of it.
func standing(ps []api.Package, i int) api.Errno {
	if i == 0 {
		return api.OK
	}
	switch orderBy(ps[i-1], ps[i], nameOf, versionOf) {
	case 0:
		return api.ErrIdxTwice
	case 1:
		return api.ErrIdxOrder
	}
	return api.OK
}

// sortBy puts things in order by what the marks tell of them, the first mark counting most.
func sortBy[T any, M cmp.Ordered](list []T, marks ...func(T) M) {
	slices.SortFunc(list, func(a, b T) int { return orderBy(a, b, marks...) })
}

// orderBy tells which of two things comes ahead: -1, 0, 1.
func orderBy[T any, M cmp.Ordered](a, b T, marks ...func(T) M) int {
	for _, mark := range marks {
		if d := cmp.Compare(mark(a), mark(b)); d != 0 {
			return d
		}
	}
	return 0
}

func nameOf(p api.Package) string { return p.Name }

func versionOf(p api.Package) string { return p.Version }
