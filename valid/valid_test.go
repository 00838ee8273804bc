package valid_test

import (
	"math"
	"slices"
	"testing"

	"larder/api"
	"larder/relation"
	"larder/samples"
	"larder/valid"
)

// P11.1, P11.2: the document's examples and each fault, alone and among others.
func TestFaults(t *testing.T) {
	for _, c := range []struct {
		what, packages string
		want           []string
	}{
		{"nothing", "", nil},
		{"one package", "aa 1", nil},

		{"example 1: alone", "aa 1 depends=bb", []string{"depends aa-1#0"}},
		{"example 1: with it", "aa 1 depends=bb; bb 1", nil},
		{"example 1: with one that provides it", "aa 1 depends=bb; cc 1 provides=bb", nil},
		{"example 1: its own Depends", "aa 1 depends=aa", nil},
		{"example 1: its own Pre-Depends", "aa 1 pre=aa", []string{"pre aa-1#0"}},
		{"example 1: its own Pre-Depends by Provides", "aa 1 provides=xx pre=xx", []string{"pre aa-1#0"}},
		{"example 1: its own Depends by Provides", "aa 1 provides=xx depends=xx", nil},
		{"example 2: its own Conflicts", "aa 1 conflicts=aa", nil},
		{"example 2: two that provide it", "aa 1 provides=mail conflicts=mail; bb 1 provides=mail conflicts=mail", []string{"conflict aa-1#0 bb-1", "conflict bb-1#0 aa-1"}},
		{"example 3: one path", "aa 1 files=usr/x; bb 1 files=usr/x", []string{"path bb-1#0 aa-1"}},
		{"example 3: a path within another", "aa 1 files=usr/x; bb 1 files=usr/x/y", nil},

		{"the second clauses", "aa 1 depends=bb depends=cc pre=bb pre=cc|dd; bb 1", []string{"depends aa-1#1", "pre aa-1#1"}},
		{"the second alternatives", "aa 1 depends=cc|bb pre=cc|bb; bb 1", nil},
		{"a Pre-Depends that another one meets", "aa 1 provides=xx pre=xx; bb 1 provides=xx", nil},
		{"a Pre-Depends that the same package at another place meets", "aa 1 pre=aa; aa 1 pre=aa", []string{"twice aa-1#0 aa-1"}},
		{"constraints", "aa 1 depends=bb(>>1) depends=bb(=1.0) depends=bb(=1) pre=bb(<<1) pre=bb(>=1~); bb 1", []string{"depends aa-1#0", "depends aa-1#1", "pre aa-1#0"}},
		{"the order of versions", "aa 1 depends=bb(=1.0) depends=bb(<<10); bb 1.00; cc 1 depends=dd(<<10); dd 9", nil},
		{"Provides against a constraint", "aa 1 depends=xx(>=0) pre=xx(>=0); bb 9 provides=xx", []string{"depends aa-1#0", "pre aa-1#0"}},
		{"Provides against a constraint of Conflicts", "aa 1 conflicts=xx(>=0),xx; bb 9 provides=xx", []string{"conflict aa-1#1 bb-9"}},

		{"two of one name", "aa 2; aa 1", []string{"twice aa-1#0 aa-2"}},
		{"one package twice", "aa 1; bb 1; aa 1", []string{"twice aa-1#0 aa-1"}},
		{"three of one name", "aa 1; aa 3; aa 2", []string{"twice aa-3#0 aa-1", "twice aa-2#0 aa-1", "twice aa-2#1 aa-3"}},
		{"a name and one that provides it", "aa 1; bb 1 provides=aa", nil},

		{"a conflict by name", "aa 1 conflicts=bb; bb 1", []string{"conflict aa-1#0 bb-1"}},
		{"a conflict of the later one", "aa 1; bb 1 conflicts=cc,aa", []string{"conflict bb-1#1 aa-1"}},
		{"no conflict by its constraint", "aa 1; bb 1 conflicts=aa(<<1)", nil},
		{"one package twice, against itself", "aa 1 conflicts=aa; aa 1 conflicts=aa", []string{"conflict aa-1#0 aa-1", "twice aa-1#0 aa-1", "conflict aa-1#0 aa-1"}},
		{"an atom that several meet, by name and by Provides", "cc 1 provides=xx,yy,xx; xx 1 provides=xx; aa 1 conflicts=zz,xx; bb 1 provides=xx", []string{"conflict aa-1#1 cc-1", "conflict aa-1#1 xx-1", "conflict aa-1#1 bb-1"}},
		{"two atoms that one meets", "aa 1 conflicts=bb(>=1),xx,bb; bb 1 provides=xx", []string{"conflict aa-1#0 bb-1", "conflict aa-1#1 bb-1", "conflict aa-1#2 bb-1"}},

		{"a path twice in one package", "aa 1 files=f,g,f,f", []string{"path aa-1#2 aa-1", "path aa-1#3 aa-1"}},
		{"a path twice in one package, and in one ahead", "bb 1 files=g,f; aa 1 files=f,f", []string{"path aa-1#0 bb-1", "path aa-1#1 bb-1"}},
		{"a path in three", "cc 1 files=f; bb 1 files=a,f; aa 1 files=f", []string{"path bb-1#1 cc-1", "path aa-1#0 cc-1"}},
		{"a path twice in the one ahead", "aa 1 files=f,f; bb 1 files=f", []string{"path aa-1#1 aa-1", "path bb-1#0 aa-1"}},

		{
			"everything at once", "aa 1 files=f,g; aa 2; bb 1; aa 3 files=g,h,h,f conflicts=aa,bb(=1),bb(=2),bb pre=aa|cc pre=dd pre=ee depends=dd depends=bb depends=ff",
			[]string{
				"twice aa-2#0 aa-1", "twice aa-3#0 aa-1", "twice aa-3#1 aa-2", "depends aa-3#0", "depends aa-3#2", "pre aa-3#1", "pre aa-3#2",
				"conflict aa-3#0 aa-1", "conflict aa-3#0 aa-2", "conflict aa-3#1 bb-1", "conflict aa-3#3 bb-1", "path aa-3#0 aa-1", "path aa-3#2 aa-3", "path aa-3#3 aa-1",
			},
		},
	} {
		s := samples.Packages(c.packages)
		if got := tell(valid.Faults(s)); !slices.Equal(got, c.want) {
			t.Errorf("P11.1: %s: Faults = %q, want %q", c.what, got, c.want)
		}
		if got := valid.Valid(s); got != (len(c.want) == 0) {
			t.Errorf("P11.2: %s: Valid = %t", c.what, got)
		}
		hold(t, s)
	}
}

// P11.1: what a fault does not say is zero.
func TestFaultFields(t *testing.T) {
	got := valid.Faults(samples.Packages("aa 1 depends=bb pre=cc pre=dd; cc 2; aa 1.0"))
	first, last := api.Key{Name: "aa", Version: "1"}, api.Key{Name: "aa", Version: "1.0"}
	want := []api.Fault{
		{Kind: api.FaultDepends, Who: first},
		{Kind: api.FaultPre, Who: first, Index: 1},
		{Kind: api.FaultTwice, Who: last, Other: first},
	}
	if !slices.Equal(got, want) {
		t.Errorf("P11.1: %+v, want %+v", got, want)
	}
}

// P11.3: whoever asks.
func TestMet(t *testing.T) {
	s := samples.Packages("aa 1 provides=xx; bb 2 provides=yy; cc 1 provides=yy")
	for _, c := range []struct {
		who       int
		clause    string
		met, pre  bool
		otherwise string
	}{
		{0, "aa", true, false, "its own name"},
		{0, "xx", true, false, "its own Provides"},
		{0, "zz | aa", true, false, "its own name as an alternative"},
		{0, "aa | bb", true, true, "its own name ahead of another one's"},
		{0, "bb", true, true, "another one's name"},
		{1, "yy", true, true, "its own Provides and another one's"},
		{2, "yy", true, true, "its own Provides behind another one's"},
		{0, "zz", false, false, "nobody's name"},
		{0, "zz | bb (>= 2)", true, true, "a version that fits"},
		{0, "zz | bb (>> 2)", false, false, "a version that does not"},
		{0, "yy (>= 0)", false, false, "Provides against a constraint"},
		{-1, "aa", true, true, "who ahead of the list"},
		{3, "aa", true, true, "who behind the list"},
		{3, "zz", false, false, "who behind the list, for nobody's name"},
		{math.MinInt, "cc", true, true, "who far ahead"},
		{math.MaxInt, "cc", true, true, "who far behind"},
	} {
		clause := samples.Must(relation.ParseClause(c.clause))
		if met, pre := valid.Met(s, c.who, clause, false), valid.Met(s, c.who, clause, true); met != c.met || pre != c.pre {
			t.Errorf("P11.3: %s: Met(%d, %s) = %t, as Pre-Depends %t", c.otherwise, c.who, c.clause, met, pre)
		}
	}
	for _, clause := range []api.Clause{nil, {}} {
		for who := -1; who <= len(s); who++ {
			if valid.Met(s, who, clause, false) || valid.Met(s, who, clause, true) {
				t.Errorf("P11.3: a clause without atoms is met for %d", who)
			}
		}
	}
	clause := api.Clause{{Name: "aa"}}
	if valid.Met(nil, 0, clause, false) || valid.Met(nil, -1, clause, true) || valid.Met([]api.Package{}, 0, clause, true) {
		t.Error("P11.3: a clause is met in an empty set")
	}
}

// P11.3: one package twice: each meets the other one's Pre-Depends.
func TestMetTwice(t *testing.T) {
	s := samples.Packages("aa 1; aa 1")
	for who := -1; who <= 2; who++ {
		if !valid.Met(s, who, api.Clause{{Name: "aa"}}, true) {
			t.Errorf("P11.3: not met for %d", who)
		}
	}
}

// P11.4: wishes of each kind.
func TestUnmet(t *testing.T) {
	const set = "aa 1 provides=xx; bb 2; cc 1 provides=bb"
	for _, c := range []struct {
		packages, wishes string
		want             []int
	}{
		{"aa 1", "install aa(>=2)", []int{0}}, // example 5
		{"aa 1", "remove aa(<<1)", nil},
		{set, "", nil},
		{"", "install aa; remove aa; upgrade", []int{0}},
		{set, "install aa; install xx; install bb; install bb(>=2); install aa(=1.0)", []int{4}},
		{set, "install zz; install xx(>=0); install bb(<<2); install aa(<=1)", []int{0, 1, 2}},
		{set, "remove aa; remove bb(>>2); remove bb(>=2); remove zz; remove cc(<<2)", []int{0, 2, 4}},
		{set, "remove xx; remove xx(>=0)", nil},
		{"cc 1 provides=bb", "remove bb; install bb", nil},
		{"aa 2; aa 1", "remove aa(<<2); remove aa(>>2); install aa(<<2); install aa(>=2)", []int{0}},
		{set, "upgrade; install zz; upgrade; remove aa; install aa; install zz; upgrade", []int{1, 3, 5}},
	} {
		if got := valid.Unmet(samples.Packages(c.packages), samples.Wishes(c.wishes)); !slices.Equal(got, c.want) {
			t.Errorf("P11.4: Unmet(%q, %q) = %v, want %v", c.packages, c.wishes, got, c.want)
		}
	}
}

// P11.4: kinds that are none are met, whatever their atoms.
func TestUnmetKinds(t *testing.T) {
	s := samples.Packages("aa 1")
	for _, kind := range []int{api.WishUpgrade, 3, -1, math.MaxInt, math.MinInt} {
		wishes := []api.Wish{{Kind: kind}, {Kind: kind, Atom: api.Atom{Name: "aa"}}, {Kind: kind, Atom: api.Atom{Name: "zz"}}, {Kind: api.WishInstall}}
		if got := valid.Unmet(s, wishes); !slices.Equal(got, []int{3}) {
			t.Errorf("P11.4: the kind %d: %v", kind, got)
		}
	}
}

// P11.5: what stays.
func TestClosed(t *testing.T) {
	for _, c := range []struct {
		what, packages string
		want           []int
	}{
		{"nothing", "", nil},
		{"example 4", "aa 1 depends=bb; bb 1 depends=aa; cc 1 depends=dd", []int{0, 1}},
		{"a chain that falls from its end on", "aa 1 depends=bb; bb 1 depends=cc; cc 1 pre=dd; dd 1 depends=zz; ee 1", []int{4}},
		{"the same, turned", "ee 1; dd 1 depends=zz; cc 1 pre=dd; bb 1 depends=cc; aa 1 depends=bb", []int{0}},
		{"the same, mixed", "bb 1 depends=cc; dd 1 depends=zz; aa 1 depends=bb; ee 1; cc 1 pre=dd", []int{3}},
		{"a chain that stands", "aa 1 depends=bb; bb 1 depends=cc; cc 1", []int{0, 1, 2}},
		{"a circle of Pre-Depends", "aa 1 pre=bb; bb 1 pre=cc; cc 1 pre=aa", []int{0, 1, 2}},
		{"a circle that leans on nothing", "aa 1 depends=bb; bb 1 depends=cc depends=zz; cc 1 depends=aa; dd 1", []int{3}},
		{"its own Depends", "aa 1 depends=aa; bb 1 provides=xx depends=xx", []int{0, 1}},
		{"its own Pre-Depends", "aa 1 pre=aa; bb 1 provides=xx pre=xx; cc 1", []int{2}},
		{"its own Pre-Depends, and another one's that falls", "aa 1 provides=xx pre=xx; bb 1 provides=xx depends=zz; cc 1 depends=aa", nil},
		{"two that provide it for one another", "aa 1 provides=xx pre=xx; bb 1 provides=xx pre=xx", []int{0, 1}},
		{"an alternative that is left", "aa 1 depends=bb|cc; bb 1 depends=zz; cc 1", []int{0, 2}},
		{"an alternative that is left, and one that falls later", "aa 1 depends=bb|cc; bb 1 depends=zz; cc 1 depends=dd; dd 1 depends=bb", nil},
		{"a Provides that falls", "aa 1 depends=xx; bb 1 provides=xx depends=zz; cc 1 provides=yy depends=xx; dd 1 depends=yy; ee 1 provides=zz depends=zz(>=1)", nil},
		{"one package twice", "aa 1 pre=aa; aa 1 pre=aa; bb 1 depends=aa", []int{0, 1, 2}},
		{"two of one name", "aa 1 depends=zz; aa 2; bb 1 depends=aa(<<2); cc 1 depends=aa", []int{1, 3}},
		{"conflicts and paths count for nothing", "aa 1 conflicts=bb files=f; bb 1 files=f,f; aa 1", []int{0, 1, 2}},
	} {
		s := samples.Packages(c.packages)
		if got := valid.Closed(s); !slices.Equal(got, c.want) {
			t.Errorf("P11.5: %s: Closed = %v, want %v", c.what, got, c.want)
		}
		hold(t, s)
	}
}

// P11.6: what is broken.
func TestBreaks(t *testing.T) {
	for _, c := range []struct{ what, packages, out, want string }{
		{"nothing", "", "aa 1", ""},
		{"one that is leaned on", "aa 1 depends=bb; bb 1; cc 1 pre=bb", "bb 1", "aa 1; cc 1"},
		{"one that is not", "aa 1 depends=bb; bb 1", "aa 1", ""},
		{"both", "aa 1 depends=bb; bb 1", "aa 1; bb 1", ""},
		{"only who leans on it at once", "aa 1 depends=bb; bb 1 depends=cc; cc 1", "cc 1", "bb 1"},
		{"nobody goes", "aa 1 depends=bb; bb 1; cc 1 depends=zz", "", ""},
		{"keys that the set has not", "aa 1 depends=bb; bb 1", "bb 1.0; bb 2; cc 1; zz 1", ""},
		{"one that it has among them", "aa 1 depends=bb; bb 1", "bb 1.0; bb 1; zz 1", "aa 1"},
		{"a key twice", "aa 1 depends=bb; bb 1", "bb 1; bb 1", "aa 1"},
		{"a clause that was not met ahead", "aa 1 depends=bb|zz depends=zz; cc 1 depends=zz; bb 1", "bb 1", "aa 1"},
		{"a clause that was not met ahead, alone", "cc 1 depends=zz(>=1); zz 0", "zz 0", ""},
		{"another alternative", "aa 1 depends=bb|cc; bb 1; cc 1", "bb 1", ""},
		{"all alternatives", "aa 1 depends=bb|cc; bb 1; cc 1", "cc 1; bb 1", "aa 1"},
		{"another one that provides it", "aa 1 depends=xx; bb 1 provides=xx; xx 1", "xx 1", ""},
		{"Provides against a constraint", "aa 1 depends=xx(>=1); bb 1 provides=xx; xx 1", "xx 1", "aa 1"},
		{"itself", "aa 1 provides=xx depends=xx; bb 1 provides=xx", "bb 1", ""},
		{"itself, of Pre-Depends", "aa 1 provides=xx pre=xx; bb 1 provides=xx", "bb 1", "aa 1"},
		{"by name, then by version as a text", "cc 1 depends=dd; aa 9 depends=dd; aa 10 pre=dd; bb 1 depends=dd; dd 1; aa 1 depends=dd", "dd 1", "aa 1; aa 10; aa 9; bb 1; cc 1"},
		{"one package twice", "bb 1 depends=cc; aa 1 depends=cc; bb 1 depends=cc; cc 1; cc 1", "cc 1", "aa 1; bb 1"},
		{"one package twice, its own Pre-Depends", "aa 1 pre=aa; aa 1 pre=aa; aa 2 pre=aa(<<2)", "aa 1", "aa 2"},
		{"another version stays", "aa 1 depends=bb; bb 1; bb 2", "bb 1", ""},
		{"two clauses at once", "aa 1 depends=bb depends=cc pre=bb; bb 1; cc 1", "bb 1; cc 1", "aa 1"},
		{"conflicts and paths count for nothing", "aa 1 conflicts=bb files=f; bb 1 files=f; aa 1", "bb 1", ""},
	} {
		s := samples.Packages(c.packages)
		if got, want := valid.Breaks(s, keys(c.out)), keys(c.want); !slices.Equal(got, want) {
			t.Errorf("P11.6: %s: Breaks = %v, want %v", c.what, got, want)
		}
		hold(t, s)
	}
}

// keys reads keys as `aa 1; bb 2`.
func keys(text string) []api.Key {
	var list []api.Key
	for _, p := range samples.Packages(text) {
		list = append(list, key(p))
	}
	return list
}
