package valid

import (
	"cmp"
	"slices"

	"larder/api"
)

// part tells of each place of a set whether it is in the part.
type part []bool

// allOf tells the part that is the whole set.
func allOf(s []api.Package) part { return without(s, nil) }

// without tells the part that is left when some packages go.
func without(s []api.Package, out []api.Key) part {
	gone := make(map[api.Key]struct{}, len(out))
	for _, k := range out {
		gone[k] = struct{}{}
	}
	in := make(part, len(s))
	for p := range s {
		_, goes := gone[keyOf(s[p])]
		in[p] = !goes
	}
	return in
}

// places tells the places that are in the part, rising.
func (in part) places() []int {
	var list []int
	for p, is := range in {
		if is {
			list = append(list, p)
		}
	}
	return list
}

// drop takes out of a part those of some places that are not whole in it, and tells them.
func (s set) drop(in part, doubtful []int) []int {
	var fallen []int
	for _, p := range doubtful {
		if in[p] && !s.isWhole(p, in) {
			in[p] = false
			fallen = append(fallen, p)
		}
	}
	return fallen
}

// askingOf tells who has a name in Depends or Pre-Depends, as often as it stands there.
func askingOf(s []api.Package) map[string][]int {
	asking := make(map[string][]int)
	for p := range s {
		for _, clauses := range [...][]api.Clause{s[p].Depends, s[p].PreDepends} {
			for _, c := range clauses {
				for _, a := range c {
					asking[a.Name] = append(asking[a.Name], p)
				}
			}
		}
	}
	return asking
}

// leaning tells who asks for a name that one of some packages has or provides: places, each once.
func (s set) leaning(asking map[string][]int, on []int) []int {
	names := make(map[string]struct{})
	for _, p := range on {
		names[s.list[p].Name] = struct{}{}
		for _, name := range s.list[p].Provides {
			names[name] = struct{}{}
		}
	}
	var places []int
	for name := range names {
		places = append(places, asking[name]...)
	}
	slices.Sort(places)
	return slices.Compact(places)
}

func keyOf(p api.Package) api.Key { return api.Key{Name: p.Name, Version: p.Version} }

// compareKeys puts keys in order by name and then by version string.
func compareKeys(a, b api.Key) int {
	return cmp.Or(cmp.Compare(a.Name, b.Name), cmp.Compare(a.Version, b.Version))
}
