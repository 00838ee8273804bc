package order

import (
	"iter"

	"larder/api"
	"larder/relation"
)

// side is a state, a target, or what is in both: packages by rising names, no two of one name.
type side struct {
	list      []api.Package
	at        map[string]int   // where the package of a name stands
	answering map[string][]int // who has a name or provides it, as often as it does: places, rising
}

func sideOf(list []api.Package) side {
	d := side{list, make(map[string]int, len(list)), make(map[string][]int, len(list))}
	for p := range list {
		name := list[p].Name
		d.at[name] = p
		d.answering[name] = append(d.answering[name], p)
		for _, name := range list[p].Provides {
			d.answering[name] = append(d.answering[name], p)
		}
	}
	return d
}

func (d side) names() []string {
	names := make([]string, len(d.list))
	for i := range d.list {
		names[i] = d.list[i].Name
	}
	return names
}

// of tells the package of a name; one of nothing, if there is none.
func (d side) of(name string) api.Package {
	if p, is := d.at[name]; is {
		return d.list[p]
	}
	return api.Package{}
}

// key tells which package of a name there is; a zero key, if there is none.
func (d side) key(name string) api.Key { return keyOf(d.of(name)) }

func (d side) has(k api.Key) bool {
	_, is := d.at[k.Name]
	return is && d.key(k.Name) == k
}

// without tells the packages but some.
func (d side) without(keys []api.Key) []api.Package {
	gone := setOf(keys)
	var list []api.Package
	for _, p := range d.list {
		if _, goes := gone[keyOf(p)]; !goes {
			list = append(list, p)
		}
	}
	return list
}

// only tells the packages of some keys, all of which it has.
func (d side) only(keys []api.Key) []api.Package {
	var list []api.Package
	for _, k := range keys {
		list = append(list, d.of(k.Name))
	}
	return list
}

// joined tells the packages of two lists, which rise by name and have no name in common, as one that does.
func joined(a, b []api.Package) []api.Package {
	list := make([]api.Package, 0, len(a)+len(b))
	for len(a) > 0 && len(b) > 0 {
		if a[0].Name > b[0].Name {
			a, b = b, a
		}
		list = append(list, a[0])
		a = a[1:]
	}
	return append(append(list, a...), b...)
}

// satisfiers goes through the names of the packages that meet an atom, rising. One that tells a name several times may come as often.
func (d side) satisfiers(a api.Atom) iter.Seq[string] {
	return func(yield func(string) bool) {
		for _, p := range d.answering[a.Name] {
			if relation.Meets(a, d.list[p]) && !yield(d.list[p].Name) {
				return
			}
		}
	}
}

// need is a clause of a package.
type need struct {
	clause api.Clause
	but    string // the name of the package that is no satisfier of it, if there is one
}

// needsOf tells a package's clauses of Depends and Pre-Depends.
func needsOf(p api.Package) []need {
	var list []need
	for _, c := range p.Depends {
		list = append(list, need{clause: c})
	}
	for _, c := range p.PreDepends {
		list = append(list, need{c, p.Name})
	}
	return list
}

// first tells the name of the first satisfier of a need; no name, if there is none.
func (d side) first(n need) string {
	for _, a := range n.clause {
		for name := range d.satisfiers(a) {
			if name != n.but {
				return name
			}
		}
	}
	return ""
}

// meets tells whether there is a satisfier of a need.
func (d side) meets(n need) bool { return d.first(n) != "" }

func keyOf(p api.Package) api.Key { return api.Key{Name: p.Name, Version: p.Version} }

func keysOf(list []api.Package) []api.Key {
	keys := make([]api.Key, len(list))
	for i, p := range list {
		keys[i] = keyOf(p)
	}
	return keys
}

// setOf makes a set of some things.
func setOf[T comparable](list []T) map[T]struct{} {
	set := make(map[T]struct{}, len(list))
	for _, x := range list {
		set[x] = struct{}{}
	}
	return set
}
