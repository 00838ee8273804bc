package valid_test

import (
	"math"
	"math/rand/v2"
	"slices"
	"testing"

	"larder/api"
	"larder/samples"
	"larder/valid"
)

// P11.1 to P11.7: all lists of at most three packages out of some.
func TestSmall(t *testing.T) {
	t.Parallel()
	packages := samples.Packages("aa 1; aa 2 depends=bb files=f; aa 1 depends=aa(>=2) pre=bb; aa 1 pre=aa; aa 1 provides=xx depends=xx pre=xx conflicts=xx,aa; " +
		"bb 1 provides=xx; bb 1 provides=xx,xx conflicts=zz,xx; bb 2 depends=xx|aa pre=aa(<<2); bb 1 depends=xx(>=0) files=g,f/x; bb 1.0 provides=bb depends=bb(=1) conflicts=bb; " +
		"cc 1 conflicts=aa(<<2),xx; cc 1 files=f,g; cc 1 files=g,g depends=bb; cc 1 pre=bb depends=zz|cc; cc 2 depends=zz; xx 1 depends=cc; zz 1 depends=xx pre=aa|cc")
	count := tally{}
	for _, s := range samples.Lists(packages, 3) {
		count.add(hold(t, s))
	}
	count.check(t, 100)
}

// tally counts lists by the kinds of fault that they have, and those without one.
type tally map[int]int

func (c tally) add(faults []api.Fault) {
	if len(faults) == 0 {
		c[0]++
	}
	for i, f := range faults {
		if !slices.ContainsFunc(faults[:i], func(g api.Fault) bool { return g.Kind == f.Kind }) {
			c[f.Kind]++
		}
	}
}

// check tells whether there were enough of each kind.
func (c tally) check(t *testing.T, least int) {
	t.Helper()
	for kind := range api.FaultPath + 1 {
		if c[kind] < least {
			t.Errorf("the lists are no good: %v", c)
		}
	}
}

// mixer makes packages by chance, some of things that no package may have.
type mixer struct {
	*rand.Rand
	odd int // one in so many names, versions and operators is odd; 0: none is
}

func pick[T any](m mixer, items ...T) T { return items[m.IntN(len(items))] }

func (m mixer) isOdd() bool { return m.odd > 0 && m.IntN(m.odd) == 0 }

func (m mixer) name() string {
	if m.isOdd() {
		return pick(m, "", "A", "a b", "\x00", "é")
	}
	return pick(m, "aa", "aa", "bb", "cc", "dd", "ee", "xx", "xx", "yy", "zz")
}

func (m mixer) version() string {
	if m.isOdd() {
		return pick(m, "", "a", "1-", "1_", ":1")
	}
	return pick(m, "1", "1.0", "1.00", "2", "9", "10")
}

func (m mixer) atom() api.Atom {
	a := api.Atom{Name: m.name()}
	if m.isOdd() {
		a.Op = pick(m, -1, 6, math.MaxInt, math.MinInt)
	} else if m.IntN(3) == 0 {
		a.Op = 1 + m.IntN(5)
	}
	if a.Op != api.OpAny || m.isOdd() {
		a.Version = m.version()
	}
	return a
}

func row[T any](m mixer, most int, item func() T) []T {
	var list []T
	for range m.IntN(most + 1) {
		list = append(list, item())
	}
	return list
}

// clause makes a clause, which has an atom unless it is odd.
func (m mixer) clause() api.Clause {
	if m.isOdd() {
		return nil
	}
	return append(api.Clause{m.atom()}, row(m, 2, m.atom)...)
}

func (m mixer) file() api.File { return api.File{Path: pick(m, "a", "b", "c", "d", "e", "a/b", "b/c")} }

func (m mixer) pkg() api.Package {
	p := api.Package{Name: m.name(), Version: m.version(), Provides: row(m, 2, m.name)}
	p.Depends = row(m, m.IntN(3), m.clause)
	p.PreDepends = row(m, m.IntN(2), m.clause)
	p.Conflicts = row(m, m.IntN(2), m.atom)
	if m.IntN(3) == 0 {
		p.Files = row(m, 2, m.file)
	}
	return p
}

// list makes a list, of which a package may stand in it twice.
func (m mixer) list() []api.Package {
	s := row(m, 6, m.pkg)
	if len(s) > 0 && m.IntN(8) == 0 {
		s = append(s, s[m.IntN(len(s))])
	}
	return s
}

// P11.1 to P11.7: mixed lists.
func TestMixed(t *testing.T) {
	t.Parallel()
	m := mixer{Rand: rand.New(rand.NewPCG(11, 1))}
	count, few, broken := tally{}, 0, 0
	for range 8000 {
		s := m.list()
		count.add(hold(t, s))
		if n := len(closed(s)); n > 0 && n < len(s) {
			few++
		}
		if len(s) > 0 && len(breaks(s, []api.Key{key(s[0])})) > 0 {
			broken++
		}
	}
	if count.check(t, 300); few < 300 || broken < 300 {
		t.Errorf("the mixture is no good: closed in part %d, broken %d", few, broken)
	}
}

// P11.1 to P11.7: what no package may have is taken as it stands.
func TestOdd(t *testing.T) {
	t.Parallel()
	m := mixer{Rand: rand.New(rand.NewPCG(11, 2)), odd: 6}
	count := tally{}
	for range 4000 {
		count.add(hold(t, m.list()))
	}
	count.check(t, 100)
}

// P11.1 to P11.6: wrong inputs by hand.
func TestWrong(t *testing.T) {
	for _, c := range []struct {
		what string
		s    []api.Package
		want []string
	}{
		{"no name", []api.Package{{}, {}}, []string{"twice -#0"}},
		{"no name, which it needs", []api.Package{{Depends: []api.Clause{{{}}}, PreDepends: []api.Clause{{{}}}}}, []string{"pre -#0"}},
		{"no name, which another one provides", []api.Package{{PreDepends: []api.Clause{{{}}}}, {Name: "aa", Provides: []string{""}}}, nil},
		{
			"clauses without atoms", []api.Package{{Name: "aa", Version: "1", Depends: []api.Clause{nil, {}}, PreDepends: []api.Clause{{}, nil}}},
			[]string{"depends aa-1#0", "depends aa-1#1", "pre aa-1#0", "pre aa-1#1"},
		},
		{
			"no version", []api.Package{{Name: "aa", Conflicts: []api.Atom{{Name: "bb", Op: api.OpAtLeast}, {Name: "bb"}}}, {Name: "bb", Version: "?"}},
			[]string{"conflict aa-#1 bb-?"},
		},
		{
			"operators that are none", []api.Package{{Name: "aa", Version: "1", Depends: []api.Clause{{{Name: "aa", Op: 6, Version: "1"}}, {{Name: "aa", Op: -1, Version: "1"}}}}},
			[]string{"depends aa-1#0", "depends aa-1#1"},
		},
		{"a version without an operator", []api.Package{{Name: "aa", Version: "1", Depends: []api.Clause{{{Name: "aa", Version: "2"}}}}}, nil},
		{"empty paths", []api.Package{{Name: "aa", Files: []api.File{{}, {}}}, {Name: "bb", Files: []api.File{{}}}}, []string{"path aa-#1 aa-", "path bb-#0 aa-"}},
	} {
		if got := tell(hold(t, c.s)); !slices.Equal(got, c.want) {
			t.Errorf("P11.1: %s: %q, want %q", c.what, got, c.want)
		}
	}
}

// P11.4, P11.6: wishes and keys that may not be.
func TestWrongWishes(t *testing.T) {
	s := samples.Packages("aa 1")
	for _, w := range []api.Wish{{Kind: api.WishInstall}, {Kind: api.WishInstall, Atom: api.Atom{Name: "aa", Op: 6, Version: "1"}}, {Kind: api.WishInstall, Atom: api.Atom{Name: "aa", Op: api.OpEqual, Version: "?"}}} {
		if got := valid.Unmet(s, []api.Wish{w}); !slices.Equal(got, []int{0}) {
			t.Errorf("P11.4: %+v: %v", w, got)
		}
	}
	for _, w := range []api.Wish{{Kind: api.WishRemove}, {Kind: api.WishRemove, Atom: api.Atom{Name: "aa", Op: -1, Version: "1"}}, {Kind: api.WishRemove, Atom: api.Atom{Name: "aa", Op: api.OpEqual, Version: "?"}}} {
		if got := valid.Unmet(s, []api.Wish{w}); len(got) > 0 {
			t.Errorf("P11.4: %+v: %v", w, got)
		}
	}
	if got := valid.Breaks(samples.Packages("aa 1 depends=bb; bb 1"), []api.Key{{}, {Name: "bb"}, {Version: "1"}}); len(got) > 0 {
		t.Errorf("P11.6: keys that are none: %v", got)
	}
}
