package index_test

import (
	"math/rand/v2"
	"slices"
	"testing"

	"larder/api"
	"larder/control"
	"larder/debver"
	"larder/index"
	"larder/relation"
)

// tableOf makes a table of packages in order.
func tableOf(t *testing.T, u []api.Package) *index.Table {
	t.Helper()
	table, e := index.New(u)
	if table == nil || e != api.OK {
		t.Fatalf("P5.6: New(%.200s) = %d", tell(u), e)
	}
	return table
}

// clauses reads a relation field.
func clauses(text string) []api.Clause {
	list, e := relation.ParseField(text)
	if e != api.OK {
		panic(text)
	}
	return list
}

func atom(name string, op int, version string) api.Atom {
	return api.Atom{Name: name, Op: op, Version: version}
}

// places holds a list of places.
func places(t *testing.T, what string, got []int, want ...int) {
	t.Helper()
	if !slices.Equal(got, want) {
		t.Errorf("P5.7: %s = %v, want %v", what, got, want)
	}
}

// holdNothing holds a table that has no packages.
func holdNothing(t *testing.T, table *index.Table) {
	t.Helper()
	if n := table.Len(); n != 0 {
		t.Errorf("P5.7: Len of nothing = %d", n)
	}
	for _, i := range []int{-1 << 63, -1, 0, 1, 1<<63 - 1} {
		if p, ok := table.At(i); ok || !control.Same(p, api.Package{}) {
			t.Errorf("P5.7: At(%d) of nothing = %+v, %t", i, p, ok)
		}
		places(t, "Users of nothing", table.Users(i))
	}
	for _, name := range []string{"", "aa", "!"} {
		if i, ok := table.Find(api.Key{Name: name, Version: "1"}); i != 0 || ok {
			t.Errorf("P5.7: Find of nothing = %d, %t", i, ok)
		}
		places(t, "Versions of nothing", table.Versions(name))
		places(t, "Providers of nothing", table.Providers(name))
		places(t, "Satisfiers of nothing", table.Satisfiers(atom(name, api.OpAny, "")))
		places(t, "Satisfiers of nothing", table.Satisfiers(atom(name, api.OpEqual, "1")))
	}
	seq := table.Names()
	if seq == nil {
		t.Fatal("P5.7: Names of nothing is nil")
	}
	for name := range seq {
		t.Errorf("P5.7: Names of nothing gives %q", name)
	}
}

// P5.6, P5.7: no table, and tables of nothing.
func TestTableOfNothing(t *testing.T) {
	holdNothing(t, nil)
	holdNothing(t, tableOf(t, nil))
	holdNothing(t, tableOf(t, []api.Package{}))
	holdNothing(t, &index.Table{})
	if table, e := index.New(packages("bb 1, aa 1")); table != nil || e != api.ErrIdxOrder {
		t.Errorf("P5.6: New of what is not in order: %d", e)
	}
}

// P5.7: example 4, and each kind of relation.
func TestTable(t *testing.T) {
	u := packages("aa 1, aa 1.0, cc 1, cc 2, dd 1, ee 1, ff 1, gg 1, hh 1")
	u[2].Provides = []string{"aa", "zz"}
	u[4].Depends = clauses("zz | yy, aa")
	u[5].PreDepends = clauses("nn, xx | aa (>= 1.0)")
	u[6].Depends = clauses("cc")
	u[7].Conflicts = []api.Atom{{Name: "aa"}, {Name: "cc"}}
	// It depends on what it provides itself, and on its own name.
	u[8].Provides, u[8].Depends, u[8].PreDepends = []string{"self", "hh", "self"}, clauses("self"), clauses("hh (= 1)")
	table := tableOf(t, u)

	places(t, "Satisfiers aa", table.Satisfiers(atom("aa", api.OpAny, "")), 0, 1, 2)
	places(t, "Satisfiers aa (>= 0)", table.Satisfiers(atom("aa", api.OpAtLeast, "0")), 0, 1)
	places(t, "Satisfiers aa (>> 1)", table.Satisfiers(atom("aa", api.OpMore, "1")), 1)
	places(t, "Satisfiers aa (<< 1)", table.Satisfiers(atom("aa", api.OpLess, "1")))
	places(t, "Satisfiers zz", table.Satisfiers(atom("zz", api.OpAny, "")), 2)
	places(t, "Satisfiers zz (= 1)", table.Satisfiers(atom("zz", api.OpEqual, "1")))
	places(t, "Satisfiers hh, once", table.Satisfiers(atom("hh", api.OpAny, "")), 8)
	places(t, "Satisfiers of a name that is not there", table.Satisfiers(atom("yy", api.OpAny, "")))
	places(t, "Satisfiers of a beginning of a name", table.Satisfiers(atom("a", api.OpAny, "")))
	// Nothing of an atom is checked.
	places(t, "Satisfiers of any with a version", table.Satisfiers(atom("aa", api.OpAny, "!")), 0, 1, 2)
	places(t, "Satisfiers of no version", table.Satisfiers(atom("aa", api.OpAtLeast, "!")))
	places(t, "Satisfiers of no operator", table.Satisfiers(atom("aa", 6, "1")))
	places(t, "Satisfiers of no operator", table.Satisfiers(atom("aa", -1, "1")))
	places(t, "Satisfiers of no name", table.Satisfiers(api.Atom{}))

	places(t, "Providers aa", table.Providers("aa"), 2)
	places(t, "Providers self, once", table.Providers("self"), 8)
	places(t, "Providers hh", table.Providers("hh"), 8)
	places(t, "Providers cc", table.Providers("cc"))
	places(t, "Providers of no name", table.Providers(""))

	places(t, "Users of aa 1", table.Users(0), 4)
	places(t, "Users of aa 1.0", table.Users(1), 4, 5)
	places(t, "Users of cc 1, who provides aa and zz", table.Users(2), 4, 6)
	places(t, "Users of cc 2", table.Users(3), 6)
	places(t, "Users of dd", table.Users(4))
	places(t, "Users of hh, itself", table.Users(8), 8)
	places(t, "Users below 0", table.Users(-1))
	places(t, "Users at the end", table.Users(9))
	places(t, "Users far below 0", table.Users(-1<<63))
	places(t, "Users far behind the end", table.Users(1<<63-1))
}

// P5.7: a package's own Pre-Depends makes it its own user, by name and by what it provides.
func TestUsersOfItself(t *testing.T) {
	u := packages("aa 1, bb 1, cc 1")
	u[0].PreDepends = clauses("aa (= 2) | aa (<= 1)")
	u[1].Provides, u[1].PreDepends = []string{"mail"}, clauses("mail")
	u[2].Provides, u[2].Depends = []string{"mail"}, clauses("mail (= 1)")
	table := tableOf(t, u)
	places(t, "Users of aa", table.Users(0), 0)
	places(t, "Users of bb", table.Users(1), 1)
	places(t, "Users of cc, which provides no version", table.Users(2), 1)
}

// P5.7: versions by their order, equal ones by their texts; example 1.
func TestVersions(t *testing.T) {
	u := packages("aa 00:1.0-00, aa 0:1.0, aa 1.0, aa 1.0-0, aa 1.00, aa 1.0~, aa 10, aa 1:0, aa 9, aaa 10, aaa 2, ab 1")
	table := tableOf(t, u)
	places(t, "Versions aa", table.Versions("aa"), 5, 0, 1, 2, 3, 4, 8, 6, 7)
	places(t, "Versions aaa", table.Versions("aaa"), 10, 9)
	places(t, "Versions ab", table.Versions("ab"), 11)
	for _, name := range []string{"", "a", "aa ", "aaaa", "ac", "!"} {
		places(t, "Versions of "+name, table.Versions(name))
	}
	places(t, "Satisfiers aa (= 1.0)", table.Satisfiers(atom("aa", api.OpEqual, "1.0")), 0, 1, 2, 3, 4)
	places(t, "Satisfiers aa (<< 1.0)", table.Satisfiers(atom("aa", api.OpLess, "1.0")), 5)
	places(t, "Satisfiers aa (<= 1.000)", table.Satisfiers(atom("aa", api.OpAtMost, "1.000")), 0, 1, 2, 3, 4, 5)
	places(t, "Satisfiers aa (>> 9)", table.Satisfiers(atom("aa", api.OpMore, "9")), 6, 7)
	places(t, "Satisfiers aa (>= 9)", table.Satisfiers(atom("aa", api.OpAtLeast, "9")), 6, 7, 8)
	table = tableOf(t, packages("aa 10, aa 2, bb 1"))
	places(t, "Versions aa", table.Versions("aa"), 1, 0)
}

// P5.7: places and keys; P5.6: places are those that were handed in.
func TestAtAndFind(t *testing.T) {
	u := packages("aa 1, aa 1.0, aa 1.00, aa+ 1, aaa 1, ab 1")
	for i := range u {
		u[i].Summary = tell(u[i : i+1])
	}
	table := tableOf(t, u)
	if table.Len() != len(u) {
		t.Errorf("P5.7: Len = %d", table.Len())
	}
	for i, p := range u {
		if got, ok := table.At(i); !ok || !control.Same(got, p) {
			t.Errorf("P5.7: At(%d) = %+v, %t", i, got, ok)
		}
		if got, ok := table.Find(control.Key(p)); got != i || !ok {
			t.Errorf("P5.7: Find(%v) = %d, %t", control.Key(p), got, ok)
		}
	}
	for _, i := range []int{-1 << 63, -1, len(u), len(u) + 1, 1<<63 - 1} {
		if got, ok := table.At(i); ok || !control.Same(got, api.Package{}) {
			t.Errorf("P5.7: At(%d) = %+v, %t", i, got, ok)
		}
	}
	for _, k := range []api.Key{{}, {Name: "aa"}, {Version: "1"}, {Name: "aa", Version: "01"}, {Name: "aa", Version: "1.000"}, {Name: "a", Version: "a1"}, {Name: "ac", Version: "1"}, {Name: "!", Version: "!"}} {
		if got, ok := table.Find(k); got != 0 || ok {
			t.Errorf("P5.7: Find(%v) = %d, %t", k, got, ok)
		}
	}
}

// P5.7: each name once, rising; the iterator may be left early and gone through again.
func TestNames(t *testing.T) {
	table := tableOf(t, packages("aa 1, aa 2, aa 3, aa+ 1, aa0 1, aaa 1, aaa 2, ab 1"))
	want := []string{"aa", "aa+", "aa0", "aaa", "ab"}
	seq := table.Names()
	for most := range len(want) + 1 {
		var got []string
		for name := range seq {
			if len(got) == most {
				break
			}
			got = append(got, name)
		}
		if !slices.Equal(got, want[:most]) {
			t.Errorf("P5.7: the first %d of Names = %q", most, got)
		}
	}
	if got := slices.Collect(seq); !slices.Equal(got, want) {
		t.Errorf("P5.7: Names again = %q", got)
	}
	// One may be gone through within another.
	count := 0
	for range seq {
		for range seq {
			count++
		}
	}
	if count != len(want)*len(want) {
		t.Errorf("P5.7: Names within Names gives %d", count)
	}
}

// mixed tells a universe by the numbers of a generator: few names, so that much meets.
func mixed(r *rand.Rand) []api.Package {
	names := []string{"aa", "aaa", "ab", "bb"}
	versions := []string{"0:1", "1", "1-0", "1.0", "10", "2", "2~"}
	pick := func(list []string) string { return list[r.IntN(len(list))] }
	some := func() []api.Atom {
		var list []api.Atom
		for range 1 + r.IntN(3) {
			a := api.Atom{Name: pick(append(names, "vv", "ww"))}
			if op := r.IntN(9); op > api.OpAny && op <= api.OpMore {
				a.Op, a.Version = op, pick(versions)
			}
			list = append(list, a)
		}
		return list
	}
	var u []api.Package
	for _, name := range names {
		for _, version := range versions {
			if r.IntN(3) > 0 {
				continue
			}
			p := pkg(name, version)
			for range r.IntN(3) {
				p.Depends = append(p.Depends, some())
			}
			for range r.IntN(2) {
				p.PreDepends = append(p.PreDepends, some())
			}
			for range r.IntN(3) {
				p.Provides = append(p.Provides, pick(append(names, "vv", "ww")))
			}
			p.Conflicts = some()
			u = append(u, p)
		}
	}
	return u
}

// those tells the places of the packages that are right.
func those(u []api.Package, right func(api.Package) bool) []int {
	var list []int
	for i, p := range u {
		if right(p) {
			list = append(list, i)
		}
	}
	return list
}

// wants tells whether one package has an atom that the other meets.
func wants(p, other api.Package) bool {
	for _, list := range [][]api.Clause{p.Depends, p.PreDepends} {
		for _, c := range list {
			for _, a := range c {
				if relation.Meets(a, other) {
					return true
				}
			}
		}
	}
	return false
}

// P5.7: tables of many universes, held against a look at every package.
func TestTableMixed(t *testing.T) {
	r := rand.New(rand.NewPCG(5, 7))
	for range 400 {
		u := mixed(r)
		table := tableOf(t, u)
		for i, p := range u {
			places(t, "Users", table.Users(i), those(u, func(q api.Package) bool { return wants(q, p) })...)
		}
		for _, name := range []string{"aa", "aaa", "ab", "bb", "vv", "ww", "a"} {
			places(t, "Providers "+name, table.Providers(name), those(u, func(p api.Package) bool { return slices.Contains(p.Provides, name) })...)
			named := those(u, func(p api.Package) bool { return p.Name == name })
			slices.SortStableFunc(named, func(i, j int) int {
				d, _ := debver.Compare(u[i].Version, u[j].Version)
				return d
			})
			places(t, "Versions "+name, table.Versions(name), named...)
			for op := api.OpAny - 1; op <= api.OpMore+1; op++ {
				for _, version := range []string{"", "1", "1.0-0", "3"} {
					a := atom(name, op, version)
					places(t, "Satisfiers", table.Satisfiers(a), those(u, func(p api.Package) bool { return relation.Meets(a, p) })...)
				}
			}
		}
		if t.Failed() {
			t.Fatalf("of the universe %+v", u)
		}
	}
}

// P5.6, P5.7: a table of MaxUniverse packages.
func TestTableMany(t *testing.T) {
	u := many(api.MaxUniverse)
	last := len(u) - 1
	u[last].Provides, u[last].Depends = []string{u[0].Name}, clauses(u[0].Name)
	table := tableOf(t, u)
	if p, ok := table.At(last); table.Len() != api.MaxUniverse || !ok || !control.Same(p, u[last]) {
		t.Errorf("P5.7: At(%d) of %d = %+v, %t", last, table.Len(), p, ok)
	}
	if i, ok := table.Find(control.Key(u[last])); i != last || !ok {
		t.Errorf("P5.7: Find = %d, %t", i, ok)
	}
	places(t, "Satisfiers", table.Satisfiers(api.Atom{Name: u[0].Name}), 0, last)
	places(t, "Users", table.Users(0), last)
	places(t, "Users", table.Users(last), last)
	if names := slices.Collect(table.Names()); len(names) != api.MaxUniverse || names[last] != u[last].Name {
		t.Errorf("P5.7: Names gives %d", len(names))
	}
}
