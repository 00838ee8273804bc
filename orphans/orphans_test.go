package orphans_test

import (
	"math"
	"slices"
	"strings"
	"testing"

	"larder/api"
	"larder/orphans"
	"larder/samples"
)

// installed reads installed packages as `aa manual; bb auto essential`, with `; ` between them.
func installed(text string) []api.Held {
	var held []api.Held
	for _, part := range samples.Parts(text) {
		words := strings.Fields(part)
		h := api.Held{Package: api.Package{Name: words[0], Version: "1"}}
		h.Mark = map[string]int{"manual": api.MarkManual, "auto": api.MarkAuto, "odd": 2, "below": -1}[words[1]]
		h.Essential = slices.Contains(words, "essential")
		held = append(held, h)
	}
	return held
}

// P19.1: who is a root, by its mark, by being Essential, by a hold, and by several of these.
func TestRoots(t *testing.T) {
	for _, c := range []struct{ what, held, holds, want string }{
		{"nothing", "", "", ""},
		{"nothing installed, a hold", "", "aa", ""},
		{"manual", "aa manual", "", "aa"},
		{"automatic", "aa auto", "", ""},
		{"automatic, Essential", "aa auto essential", "", "aa"},
		{"automatic, held", "aa auto", "aa", "aa"},
		{"manual, Essential and held", "aa manual essential; bb auto", "aa", "aa"},
		{"automatic, Essential and held", "aa auto essential", "aa", "aa"},
		{"in any order", "dd manual; bb auto essential; cc auto; aa auto; ee auto", "aa; ee", "aa; bb; dd; ee"},
		{"holds that name nobody", "aa auto; bb manual", "zz; a; aaa; A; Aa", "bb"},
		{"a hold twice", "aa auto; bb auto", "bb; bb", "bb"},
		{"one name twice, a root both times", "aa manual; aa auto essential", "", "aa"},
		{"one name twice, a root once", "aa auto; bb auto; aa manual", "", "aa"},
		{"one name twice, a root never", "aa auto; bb auto; aa auto", "", ""},
		{"one name twice, held", "aa auto; bb auto; aa auto", "aa", "aa"},
		{"marks that are none", "aa odd; bb below; cc odd essential; dd below", "dd", "cc; dd"},
	} {
		got := orphans.Roots(installed(c.held), samples.Parts(c.holds))
		if !slices.Equal(got, samples.Parts(c.want)) {
			t.Errorf("P19.1: %s: %q, want %q", c.what, got, c.want)
		}
	}
}

// P19.1: names that are none, versions that differ.
func TestRootsWrong(t *testing.T) {
	held := []api.Held{{}, {Package: api.Package{Name: "aa", Version: "2"}}, {Package: api.Package{Name: "\xff"}, Mark: api.MarkAuto}, {Package: api.Package{Name: "aa", Version: "1"}, Mark: math.MinInt}}
	if got, want := orphans.Roots(held, []string{"\xff", ""}), []string{"", "aa", "\xff"}; !slices.Equal(got, want) {
		t.Errorf("P19.1: %q, want %q", got, want)
	}
	if got := orphans.Roots(held[2:], []string{"", "\xfe"}); len(got) > 0 {
		t.Errorf("P19.1: %q, want none", got)
	}
}

// P19.1: all small lists of installed packages, with all small lists of holds.
func TestRootsSmall(t *testing.T) {
	count := 0
	for _, held := range samples.Lists(installed("aa manual; aa auto; aa auto essential; bb manual essential; bb auto; cc odd"), 3) {
		for _, holds := range samples.Lists([]string{"aa", "bb", "zz"}, 2) {
			want := roots(held, holds)
			if got := orphans.Roots(held, holds); !slices.Equal(got, want) {
				t.Errorf("P19.1: %+v, holds %q: %q, want %q", held, holds, got, want)
			}
			count += len(want)
		}
	}
	if count < 1000 {
		t.Errorf("the lists are no good: %d roots", count)
	}
}

// all tells so many places.
func all(n int) []int {
	list := make([]int, n)
	for i := range list {
		list[i] = i
	}
	return list
}

// P19.2 to P19.5: the chapter's examples, and what the document names.
func TestNeeded(t *testing.T) {
	for _, c := range []struct {
		what, packages    string
		set, roots        []int // no set: all
		needed, distances []int
		turns             [][]int
	}{
		{"nothing", "", nil, nil, nil, nil, nil},
		{"a universe without a set", "aa 1; bb 1", []int{}, nil, nil, nil, nil},
		{"no roots", "aa 1; bb 1", nil, nil, nil, []int{-1, -1}, [][]int{{0, 1}}},
		{"all as roots", "aa 1; bb 1 depends=aa; cc 1", nil, []int{0, 1, 2}, []int{0, 1, 2}, []int{0, 0, 0}, nil},
		{"example 1", "aa 1 depends=bb; bb 1; cc 1", nil, []int{0}, []int{0, 1}, []int{0, 1, -1}, [][]int{{2}}},
		{"example 2", "aa 1 depends=xx|yy; xx 1; yy 1", nil, []int{0}, []int{0, 1, 2}, []int{0, 1, 1}, nil},
		{"example 3", "aa 1 depends=bb; bb 1 depends=aa; cc 1 depends=aa", nil, nil, nil, []int{-1, -1, -1}, [][]int{{2}, {0, 1}}},

		{"several clauses", "aa 1 depends=bb depends=cc pre=dd pre=ee; bb 1; cc 1; dd 1; ee 1; ff 1", nil, []int{0}, []int{0, 1, 2, 3, 4}, []int{0, 1, 1, 1, 1, -1}, [][]int{{5}}},
		{"alternatives of a Pre-Depends", "aa 1 pre=zz|bb|cc; bb 1; cc 1; dd 1", nil, []int{0}, []int{0, 1, 2}, []int{0, 1, 1, -1}, [][]int{{3}}},
		{"satisfiers outside of the set", "aa 1 depends=bb|cc; bb 1; cc 1 depends=dd; dd 1", []int{0, 1, 3}, []int{0}, []int{0, 1}, []int{0, 1, -1}, [][]int{{3}}},
		{"what one outside of the set needs", "aa 1 depends=bb; bb 1 depends=cc; cc 1", []int{0, 2}, []int{0}, []int{0}, []int{0, -1}, [][]int{{2}}},
		{"no satisfier at all", "aa 1 depends=zz pre=yy; bb 1", nil, []int{0}, []int{0}, []int{0, -1}, [][]int{{1}}},
		{"a name that is provided", "aa 1 depends=mail; bb 1 provides=mail; cc 1 provides=web,mail; mail 1; xx 1 provides=web", nil, []int{0}, []int{0, 1, 2, 3}, []int{0, 1, 1, 1, -1}, [][]int{{4}}},
		{"a constraint, which no Provides meets", "aa 1 depends=mail(>=0); bb 1 provides=mail; mail 1", nil, []int{0}, []int{0, 2}, []int{0, -1, 1}, [][]int{{1}}},
		{"a version that fits", "aa 1 depends=bb(>=2); bb 1; bb 2", []int{0, 2}, []int{0}, []int{0, 2}, []int{0, 1}, nil},
		{"a version that does not", "aa 1 depends=bb(>=2); bb 1; bb 2", []int{0, 1}, []int{0}, []int{0}, []int{0, -1}, [][]int{{1}}},
		{"versions by their order", "aa 1 depends=bb(=1.0) pre=cc(<<10); bb 1.00; cc 9", nil, []int{0}, []int{0, 1, 2}, []int{0, 1, 1}, nil},
		{"its own clauses", "aa 1 depends=aa; bb 1 provides=xx depends=xx; cc 1 pre=cc; dd 1 depends=xx", nil, []int{3}, []int{1, 3}, []int{-1, 1, -1, 0}, [][]int{{0, 2}}},
		{"Conflicts are no need", "aa 1 conflicts=bb,xx; bb 1; cc 1 provides=xx", nil, []int{0}, []int{0}, []int{0, -1, -1}, [][]int{{1, 2}}},
		{"what a root provides is no need", "aa 1 provides=bb; bb 1", nil, []int{0}, []int{0}, []int{0, -1}, [][]int{{1}}},

		{"the nearer root", "aa 1 depends=bb; bb 1 depends=cc; cc 1 depends=dd; dd 1; ee 1 depends=dd", nil, []int{0, 4}, []int{0, 1, 2, 3, 4}, []int{0, 1, 2, 1, 0}, nil},
		{"a root that another root needs", "aa 1 depends=bb; bb 1 depends=cc; cc 1", nil, []int{0, 1}, []int{0, 1, 2}, []int{0, 0, 1}, nil},
		{"a ring behind a root", "aa 1 depends=bb; bb 1 depends=cc; cc 1 depends=dd; dd 1 depends=bb|aa", nil, []int{0}, []int{0, 1, 2, 3}, []int{0, 1, 2, 3}, nil},
		{"one atom in several clauses, the nearest counts", "aa 1 depends=bb; bb 1 depends=cc; cc 1 depends=xx; dd 1 depends=xx; xx 1", nil, []int{0, 3}, []int{0, 1, 2, 3, 4}, []int{0, 1, 2, 0, 1}, nil},
		{"one name with and without a constraint", "aa 1 depends=xx(=1); bb 1 provides=xx; cc 1 depends=xx; dd 1 depends=cc; xx 1 depends=cc", nil, []int{0}, []int{0, 1, 2, 4}, []int{0, 3, 2, -1, 1}, [][]int{{3}}},

		{"a row of orphans", "aa 1 depends=bb; bb 1 depends=cc; cc 1 depends=dd; dd 1", nil, nil, nil, []int{-1, -1, -1, -1}, [][]int{{0}, {1}, {2}, {3}}},
		{"a row of orphans, the other way round", "aa 1; bb 1 pre=aa; cc 1 pre=bb; dd 1 pre=cc", nil, nil, nil, []int{-1, -1, -1, -1}, [][]int{{3}, {2}, {1}, {0}}},
		{"two rows that meet", "aa 1 depends=bb; bb 1 depends=ee; cc 1 depends=dd; dd 1 depends=ff; ee 1 depends=ff; ff 1", nil, nil, nil, []int{-1, -1, -1, -1, -1, -1}, [][]int{{0, 2}, {1, 3}, {4}, {5}}},
		{"orphans of themselves", "aa 1 depends=aa; bb 1 provides=xx depends=xx; cc 1 pre=cc", nil, nil, nil, []int{-1, -1, -1}, [][]int{{0, 1, 2}}},
		{"two that provide what both need", "aa 1 provides=xx depends=xx; bb 1 provides=xx depends=xx", nil, nil, nil, []int{-1, -1}, [][]int{{0, 1}}},
		{"two that provide what one needs", "aa 1 provides=xx depends=xx; bb 1 provides=xx", nil, nil, nil, []int{-1, -1}, [][]int{{0}, {1}}},
		{"a want of its own is left when the other goes", "aa 1 provides=xx depends=xx; bb 1 depends=xx; cc 1 depends=aa", nil, nil, nil, []int{-1, -1, -1}, [][]int{{1, 2}, {0}}},
		{"an atom twice in one package", "aa 1 depends=bb|bb depends=bb pre=bb; bb 1", nil, nil, nil, []int{-1, -1}, [][]int{{0}, {1}}},
		{"an atom twice, of its own", "aa 1 depends=aa depends=aa pre=aa; bb 1", nil, nil, nil, []int{-1, -1}, [][]int{{0, 1}}},
		{"a ring", "aa 1 depends=bb; bb 1 depends=cc; cc 1 depends=aa", nil, nil, nil, []int{-1, -1, -1}, [][]int{{0, 1, 2}}},
		{"two rings", "aa 1 depends=bb; bb 1 depends=aa; cc 1 depends=dd; dd 1 pre=cc", nil, nil, nil, []int{-1, -1, -1, -1}, [][]int{{0, 1, 2, 3}}},
		{"two rings, one behind the other", "aa 1 depends=bb; bb 1 depends=aa depends=cc; cc 1 depends=dd; dd 1 pre=cc; ee 1", nil, nil, nil, []int{-1, -1, -1, -1, -1}, [][]int{{4}, {0, 1, 2, 3}}},
		{"behind a ring", "aa 1; bb 1 depends=cc; cc 1 depends=bb depends=aa", nil, nil, nil, []int{-1, -1, -1}, [][]int{{0, 1, 2}}},
		{"ahead of a ring and behind it", "aa 1; bb 1 depends=cc; cc 1 depends=bb depends=aa; dd 1 depends=cc; ee 1 depends=dd; ff 1 depends=aa", nil, nil, nil, []int{-1, -1, -1, -1, -1, -1}, [][]int{{4, 5}, {3}, {0, 1, 2}}},
		{"orphans that want needed ones", "aa 1; bb 1 depends=aa; cc 1 depends=bb depends=aa", nil, []int{0}, []int{0}, []int{0, -1, -1}, [][]int{{2}, {1}}},
		{"places, not numbers of the set", "aa 1; bb 1 depends=cc; cc 1; dd 1; ee 1 depends=ff; ff 1 depends=ee", []int{1, 2, 4, 5}, []int{1}, []int{1, 2}, []int{0, 1, -1, -1}, [][]int{{4, 5}}},
	} {
		s := scene{samples.Packages(c.packages), c.set, c.roots}
		if c.set == nil {
			s.set = all(len(s.u))
		}
		got := hold(t, s)
		if !slices.Equal(got.needed, c.needed) || !slices.Equal(got.distances, c.distances) || !sameRows(got.turns, c.turns) {
			t.Errorf("P19.2, P19.3, P19.5: %s: needed %v, distances %v, turns %v, want %v, %v, %v", c.what, got.needed, got.distances, got.turns, c.needed, c.distances, c.turns)
		}
		if len(got.needed)+len(got.orphans) != len(s.set) {
			t.Errorf("P19.2: %s: needed %v, orphans %v", c.what, got.needed, got.orphans)
		}
		holdLaws(t, s, got)
		holdSafe(t, s, got)
	}
}

// P19.4: which chain, of several; who is a root, an orphan, not of the set.
func TestChain(t *testing.T) {
	fork := "aa 1 depends=cc depends=dd; bb 1 depends=cc depends=dd; cc 1 depends=ee; dd 1 depends=ee depends=ff; ee 1 depends=gg; ff 1 depends=gg; gg 1 depends=aa; hh 1"
	for _, c := range []struct {
		what, packages string
		set, roots     []int
		who            int
		want           []int
		e              api.Errno
	}{
		{"example 1", "aa 1 depends=bb; bb 1; cc 1", nil, []int{0}, 1, []int{0, 1}, api.OK},
		{"example 1, the orphan", "aa 1 depends=bb; bb 1; cc 1", nil, []int{0}, 2, nil, api.OK},
		{"a root", fork, nil, []int{0, 1}, 1, []int{1}, api.OK},
		{"a root that another one needs", fork, nil, []int{0, 6}, 0, []int{0}, api.OK},
		{"the least root", fork, nil, []int{0, 1}, 3, []int{0, 3}, api.OK},
		{"the only root", fork, nil, []int{1}, 3, []int{1, 3}, api.OK},
		{"the least last but one", fork, nil, []int{0, 1}, 6, []int{0, 2, 4, 6}, api.OK},
		{"the least last but one that is near enough", fork, nil, []int{0, 5}, 6, []int{5, 6}, api.OK},
		{"from the end, not from the beginning", "aa 1 depends=dd; bb 1 depends=cc; cc 1 depends=ee; dd 1 depends=ee; ee 1", nil, []int{0, 1}, 4, []int{1, 2, 4}, api.OK},
		{"back to what needs a root", fork, nil, []int{6}, 5, []int{6, 0, 3, 5}, api.OK},
		{"without some", fork, []int{0, 1, 3, 4, 5, 6, 7}, []int{0, 1}, 4, []int{0, 3, 4}, api.OK},
		{"without more", fork, []int{1, 3, 5, 6}, []int{1}, 6, []int{1, 3, 5, 6}, api.OK},
		{"an orphan", fork, nil, []int{0, 1}, 7, nil, api.OK},
		{"without roots", fork, nil, nil, 6, nil, api.OK},
		{"by Pre-Depends and Provides", "aa 1 pre=xx; bb 1 provides=xx depends=yy(>=1); xx 1; yy 2 pre=zz|ww; zz 1", nil, []int{0}, 4, []int{0, 1, 3, 4}, api.OK},
		{"not of the universe", fork, nil, []int{0}, 8, nil, api.ErrOrpWho},
		{"below the first place", fork, nil, []int{0}, -1, nil, api.ErrOrpWho},
		{"far off", fork, nil, []int{0}, math.MinInt, nil, api.ErrOrpWho},
		{"far off, above", fork, nil, []int{0}, math.MaxInt, nil, api.ErrOrpWho},
		{"not of the set", fork, []int{0, 1, 3}, []int{0}, 2, nil, api.ErrOrpWho},
		{"in an empty set", fork, []int{}, nil, 0, nil, api.ErrOrpWho},
		{"ahead of a wrong root", fork, []int{0, 1, 3}, []int{2}, 2, nil, api.ErrOrpRoot},
		{"ahead of a wrong set", fork, []int{0, 8}, []int{9}, 9, nil, api.ErrOrpSet},
	} {
		s := scene{samples.Packages(c.packages), c.set, c.roots}
		if c.set == nil {
			s.set = all(len(s.u))
		}
		got, e := orphans.Chain(s.u, s.set, s.roots, c.who)
		if !slices.Equal(got, c.want) || e != c.e {
			t.Errorf("P19.4: %s: %v, %d, want %v, %d", c.what, got, e, c.want, c.e)
		}
		hold(t, s)
	}
}

// P19.2 to P19.5: universes, sets and roots that are none, and which error comes first.
func TestErrors(t *testing.T) {
	u := samples.Packages("aa 1; aa 2; bb 1; cc 1")
	change := func(do func(u []api.Package)) []api.Package {
		list := slices.Clone(u)
		do(list)
		return list
	}
	turned := change(func(u []api.Package) { u[0], u[1] = u[1], u[0] })
	twice := change(func(u []api.Package) { u[1] = u[0] })
	unnamed := change(func(u []api.Package) { u[3].Name = "c" })
	noVersion := change(func(u []api.Package) { u[2].Version = "" })
	badClause := change(func(u []api.Package) { u[3].Depends = []api.Clause{{}} })
	for _, c := range []struct {
		what       string
		u          []api.Package
		set, roots []int
		want       api.Errno
	}{
		{"right", u, []int{0, 2, 3}, []int{0, 3}, api.OK},
		{"right, the other version", u, []int{1, 2}, []int{1, 2}, api.OK},
		{"a universe out of order", turned, []int{2, 3}, nil, api.ErrOrpSet},
		{"a universe out of order, no set", turned, nil, nil, api.ErrOrpSet},
		{"one package twice in the universe", twice, []int{2}, nil, api.ErrOrpSet},
		{"a name that is none", unnamed, []int{0}, nil, api.ErrOrpSet},
		{"a version that is none", noVersion, nil, nil, api.ErrOrpSet},
		{"a clause that is none", badClause, []int{0}, []int{0}, api.ErrOrpSet},
		{"a set of no universe", nil, []int{0}, nil, api.ErrOrpSet},
		{"a place above the last", u, []int{2, 4}, nil, api.ErrOrpSet},
		{"a place below the first", u, []int{-1, 2}, nil, api.ErrOrpSet},
		{"a place far off", u, []int{2, math.MaxInt}, nil, api.ErrOrpSet},
		{"a place far off, below", u, []int{math.MinInt}, nil, api.ErrOrpSet},
		{"falling places", u, []int{2, 0}, nil, api.ErrOrpSet},
		{"falling places at the end", u, []int{0, 3, 2}, nil, api.ErrOrpSet},
		{"a place twice", u, []int{0, 2, 2}, nil, api.ErrOrpSet},
		{"two of one name", u, []int{0, 1}, nil, api.ErrOrpSet},
		{"two of one name, and others", u, []int{0, 1, 2, 3}, []int{3}, api.ErrOrpSet},
		{"a root outside of the set", u, []int{0, 2}, []int{3}, api.ErrOrpRoot},
		{"a root outside of the set, behind a right one", u, []int{0, 2}, []int{0, 3}, api.ErrOrpRoot},
		{"another version as a root", u, []int{0, 2}, []int{1}, api.ErrOrpRoot},
		{"a root that is no place", u, []int{0, 2}, []int{-1}, api.ErrOrpRoot},
		{"a root above the last place", u, []int{0, 3}, []int{4}, api.ErrOrpRoot},
		{"a root far off", u, []int{0, 3}, []int{math.MinInt, 3}, api.ErrOrpRoot},
		{"a root of an empty set", u, nil, []int{0}, api.ErrOrpRoot},
		{"falling roots", u, []int{0, 2, 3}, []int{2, 0}, api.ErrOrpRoot},
		{"falling roots at the end", u, []int{0, 2, 3}, []int{0, 3, 2}, api.ErrOrpRoot},
		{"a root twice", u, []int{0, 2, 3}, []int{2, 2}, api.ErrOrpRoot},
		{"both wrong", u, []int{2, 0}, []int{1}, api.ErrOrpSet},
		{"a wrong universe and a wrong root", turned, []int{2}, []int{3}, api.ErrOrpSet},
	} {
		got, e := scene{c.u, c.set, c.roots}.ask(t)
		if e != c.want {
			t.Errorf("P19.2 to P19.5: %s: error %d, want %d: %+v", c.what, e, c.want, got)
		}
		hold(t, scene{c.u, c.set, c.roots})
		if c.want == api.OK {
			continue
		}
		for _, who := range []int{-1, 0, 9} {
			if chain, e := orphans.Chain(c.u, c.set, c.roots, who); len(chain) > 0 || e != c.want {
				t.Errorf("P19.4: %s: to %d: %v, %d, want %d", c.what, who, chain, e, c.want)
			}
		}
	}
}
