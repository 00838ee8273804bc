package valid_test

import (
	"fmt"
	"slices"
	"sort"
	"testing"

	"larder/api"
	"larder/relation"
	"larder/valid"
)

// The document's words, said of a list.

func key(p api.Package) api.Key { return api.Key{Name: p.Name, Version: p.Version} }

func meetsOne(c api.Clause, p api.Package) bool {
	return slices.ContainsFunc(c, func(a api.Atom) bool { return relation.Meets(a, p) })
}

func met(s []api.Package, who int, c api.Clause, pre bool) bool {
	for q, p := range s {
		if meetsOne(c, p) && !(pre && q == who) {
			return true
		}
	}
	return false
}

// clause is a clause of a package: the one at Index of Depends or of Pre-Depends.
type clause struct {
	api.Clause
	pre   bool
	index int
}

func clauses(p api.Package) []clause {
	var list []clause
	for i, c := range p.Depends {
		list = append(list, clause{c, false, i})
	}
	for i, c := range p.PreDepends {
		list = append(list, clause{c, true, i})
	}
	return list
}

func faults(s []api.Package) []api.Fault {
	var list []api.Fault
	for p, x := range s {
		for q, y := range s[:p] {
			if y.Name == x.Name {
				list = append(list, api.Fault{Kind: api.FaultTwice, Who: key(x), Index: q, Other: key(y)})
			}
		}
		for _, c := range clauses(x) {
			if !met(s, p, c.Clause, c.pre) {
				list = append(list, api.Fault{Kind: map[bool]int{false: api.FaultDepends, true: api.FaultPre}[c.pre], Who: key(x), Index: c.index})
			}
		}
		for i, a := range x.Conflicts {
			for q, y := range s {
				if q != p && relation.Meets(a, y) {
					list = append(list, api.Fault{Kind: api.FaultConflict, Who: key(x), Index: i, Other: key(y)})
				}
			}
		}
		list = append(list, pathFaults(s, p)...)
	}
	return list
}

func pathFaults(s []api.Package, p int) []api.Fault {
	var list []api.Fault
	for i, f := range s[p].Files {
	ahead:
		for q, y := range s[:p+1] {
			for j, g := range y.Files {
				if q == p && j >= i {
					break
				}
				if g.Path == f.Path {
					list = append(list, api.Fault{Kind: api.FaultPath, Who: key(s[p]), Index: i, Other: key(y)})
					break ahead
				}
			}
		}
	}
	return list
}

// isClosed tells whether all clauses of a list's packages are met in it.
func isClosed(s []api.Package) bool {
	for p, x := range s {
		for _, c := range clauses(x) {
			if !met(s, p, c.Clause, c.pre) {
				return false
			}
		}
	}
	return true
}

// isState tells what DOC.md says of a state: its Valid, and one version a name.
func isState(s []api.Package) bool {
	for p, x := range s {
		for q, y := range s {
			if p != q && (x.Name == y.Name || meetsOne(x.Conflicts, y) || sharePath(x, y)) {
				return false
			}
		}
	}
	return isClosed(s)
}

func sharePath(x, y api.Package) bool {
	return slices.ContainsFunc(x.Files, func(f api.File) bool {
		return slices.ContainsFunc(y.Files, func(g api.File) bool { return f.Path == g.Path })
	})
}

// choose tells the places of a list that bits have, and the packages there.
func choose(s []api.Package, bits int) ([]int, []api.Package) {
	var places []int
	var list []api.Package
	for p, x := range s {
		if bits>>p&1 == 1 {
			places = append(places, p)
			list = append(list, x)
		}
	}
	return places, list
}

// closed tells the union of all parts that are closed.
func closed(s []api.Package) []int {
	union := 0
	for bits := range 1 << len(s) {
		if _, list := choose(s, bits); isClosed(list) {
			union |= bits
		}
	}
	places, _ := choose(s, union)
	return places
}

func breaks(s []api.Package, out []api.Key) []api.Key {
	var rest []api.Package
	places := map[int]int{} // where each of the rest stood
	for p, x := range s {
		if !slices.Contains(out, key(x)) {
			places[len(rest)] = p
			rest = append(rest, x)
		}
	}
	var keys []api.Key
	for q, x := range rest {
		for _, c := range clauses(x) {
			if met(s, places[q], c.Clause, c.pre) && !met(rest, q, c.Clause, c.pre) && !slices.Contains(keys, key(x)) {
				keys = append(keys, key(x))
			}
		}
	}
	sort.Slice(keys, func(i, j int) bool {
		return keys[i].Name < keys[j].Name || keys[i].Name == keys[j].Name && keys[i].Version < keys[j].Version
	})
	return keys
}

func unmet(s []api.Package, wishes []api.Wish) []int {
	var places []int
	for i, w := range wishes {
		granted := w.Kind != api.WishInstall
		for _, x := range s {
			switch {
			case w.Kind == api.WishInstall && relation.Meets(w.Atom, x):
				granted = true
			case w.Kind == api.WishRemove && x.Name == w.Atom.Name && relation.Fits(w.Atom, x.Version):
				granted = false
			}
		}
		if !granted {
			places = append(places, i)
		}
	}
	return places
}

// tell tells faults as `depends aa-1#0` and `twice aa-2#0 aa-1`.
func tell(list []api.Fault) []string {
	kinds := []string{api.FaultTwice: "twice", api.FaultDepends: "depends", api.FaultPre: "pre", api.FaultConflict: "conflict", api.FaultPath: "path"}
	texts := []string{}
	for _, f := range list {
		text := fmt.Sprintf("%s %s-%s#%d", kinds[f.Kind], f.Who.Name, f.Who.Version, f.Index)
		if f.Other != (api.Key{}) {
			text += " " + f.Other.Name + "-" + f.Other.Version
		}
		texts = append(texts, text)
	}
	return texts
}

// hold holds all calls on a list against the document's words, and tells the faults.
func hold(t *testing.T, s []api.Package) []api.Fault {
	t.Helper()
	want := faults(s)
	if got := valid.Faults(s); !slices.Equal(got, want) {
		t.Fatalf("P11.1: %+v:\nFaults = %q,\nwant     %q", s, tell(got), tell(want))
	}
	if got := valid.Valid(s); got != (len(want) == 0) {
		t.Fatalf("P11.2: %+v: Valid = %t, with the faults %q", s, got, tell(want))
	}
	if got, want := valid.Closed(s), closed(s); !slices.Equal(got, want) {
		t.Fatalf("P11.5: %+v: Closed = %v, want %v", s, got, want)
	}
	holdClauses(t, s)
	holdBreaks(t, s)
	holdFollows(t, s, want)
	return want
}

// holdClauses holds Met and Unmet of all that the packages name.
func holdClauses(t *testing.T, s []api.Package) {
	t.Helper()
	list := []api.Clause{nil, {}}
	var wishes []api.Wish
	for _, x := range s {
		list = append(list, x.Conflicts)
		for _, c := range clauses(x) {
			list = append(list, c.Clause)
		}
	}
	for _, c := range list {
		for _, a := range c {
			wishes = append(wishes, api.Wish{Kind: api.WishInstall, Atom: a}, api.Wish{Kind: api.WishRemove, Atom: a}, api.Wish{Kind: api.WishUpgrade, Atom: a}, api.Wish{Kind: -1, Atom: a})
		}
		for who := -1; who <= len(s); who++ {
			for _, pre := range []bool{false, true} {
				if got := valid.Met(s, who, c, pre); got != met(s, who, c, pre) {
					t.Fatalf("P11.3: %+v: Met(%d, %v, %t) = %t", s, who, c, pre, got)
				}
			}
		}
	}
	if got, want := valid.Unmet(s, wishes), unmet(s, wishes); !slices.Equal(got, want) {
		t.Fatalf("P11.4: %+v: Unmet(%v) = %v, want %v", s, wishes, got, want)
	}
}

// holdBreaks holds Breaks of each choice of the packages, and of a key that the list has not.
func holdBreaks(t *testing.T, s []api.Package) {
	t.Helper()
	for bits := range 1 << len(s) {
		_, list := choose(s, bits)
		out := []api.Key{{Name: "zz", Version: "1"}}
		for _, x := range list {
			out = append(out, key(x))
		}
		for _, out := range [][]api.Key{out, out[1:]} {
			if got, want := valid.Breaks(s, out), breaks(s, out); !slices.Equal(got, want) {
				t.Fatalf("P11.6: %+v: Breaks(%v) = %v, want %v", s, out, got, want)
			}
		}
	}
}

// holdFollows holds what follows.
func holdFollows(t *testing.T, s []api.Package, faults []api.Fault) {
	t.Helper()
	is := len(faults) == 0
	turned := slices.Clone(s)
	for range s {
		turned = append(turned[1:], turned[0])
		reversed := slices.Clone(turned)
		slices.Reverse(reversed)
		if valid.Valid(turned) != is || valid.Valid(reversed) != is {
			t.Fatalf("P11.7: %+v: Valid is not %t of another order", s, is)
		}
	}
	lasting := slices.ContainsFunc(faults, func(f api.Fault) bool { return f.Kind != api.FaultDepends && f.Kind != api.FaultPre })
	for bits := range 1 << len(s) {
		_, list := choose(s, bits)
		if is && valid.Valid(list) != isClosed(list) {
			t.Fatalf("P11.7: %+v: Valid of the part %+v", s, list)
		}
		if more := slices.Concat(s, list); lasting && valid.Valid(more) {
			t.Fatalf("P11.7: %+v: Valid with more", more)
		}
	}
	if all := valid.Closed(s); is && len(all) != len(s) {
		t.Fatalf("P11.7: %+v: Valid, and closed at %v alone", s, all)
	}
	if once := !slices.ContainsFunc(faults, withinOne); once && is != isState(s) {
		t.Fatalf("P11.2: %+v: Valid = %t, which is not what DOC.md says", s, is)
	}
}

// withinOne tells whether a fault may be of one package alone where DOC.md sees none: a path twice.
func withinOne(f api.Fault) bool { return f.Kind == api.FaultPath && f.Who == f.Other }
