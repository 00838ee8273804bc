package resolve_test

import (
	"slices"
	"strings"
	"testing"

	"larder/api"
)

// P10.2: the document's examples, and the edges, with their reasons.
func TestRules(t *testing.T) {
	for _, c := range []struct{ what, packages, installed, wishes, holds, want string }{
		{"nothing", "", "", "", "", ""},
		{"example 1", "aa 1; bb 1 depends=aa", "", "install bb", "", "install #0 [2]; depends bb-1#0 [-2 1]"},
		{"example 2", "aa 1; aa 2", "aa 1", "", "", "name aa-1#0 aa-2 [-1 -2]"},
		{"example 2, upgraded", "aa 1; aa 2", "aa 1", "upgrade", "", "upgrade aa-1#0 [2 1]; name aa-1#0 aa-2 [-1 -2]"},
		{"example 3", "aa 1 conflicts=xx; bb 1 provides=xx", "", "install aa; install bb", "", "install #0 [1]; install #1 [2]; conflict aa-1#0 bb-1 [-1 -2]"},
		{"example 3, alone", "aa 1 provides=xx conflicts=xx", "", "", "", ""},
		{"example 4", "aa 1 pre=xx provides=xx", "", "", "", "pre aa-1#0 [-1]"},
		{"example 4, Depends", "aa 1 depends=xx provides=xx", "", "", "", ""},
		{"example 5", "aa 1", "aa 1", "remove aa", "aa", "remove aa-1#0 [-1]; hold aa-1#0 [1]"},

		{"an install by name, by what is liked", "aa 1; aa 10; aa 2", "", "install aa", "", "install #0 [2 3 1]; name aa-1#0 aa-10 [-1 -2]; name aa-1#0 aa-2 [-1 -3]; name aa-10#0 aa-2 [-2 -3]"},
		{"an install with a constraint", "aa 1; aa 10; aa 2; bb 1 provides=aa", "", "install aa(>>1)", "", "install #0 [2 3]; name aa-1#0 aa-10 [-1 -2]; name aa-1#0 aa-2 [-1 -3]; name aa-10#0 aa-2 [-2 -3]"},
		{"an install by name, then by Provides in the universe's order", "aa 1 provides=bb; bb 1; bb 2 provides=bb; cc 1 provides=bb; cc 2 provides=aa,bb,bb", "", "install bb", "",
			"install #0 [3 2 1 5 4]; name bb-1#0 bb-2 [-2 -3]; name cc-1#0 cc-2 [-4 -5]"},
		{"an install without satisfiers, twice", "aa 1", "", "install zz; install aa(>=2); install aa", "", "install #0 []; install #2 [1]"},
		{"an install that has a constraint and Provides alone", "aa 1 provides=xx", "", "install xx(>=0)", "", "install #0 []"},
		{"a removal of what is there, not of what is provided", "aa 1; aa 2; bb 1 provides=aa", "", "remove aa", "", "remove aa-1#0 [-1]; remove aa-2#0 [-2]; name aa-1#0 aa-2 [-1 -2]"},
		{"a removal by rising places, not as they are liked", "aa 1; aa 10; aa 2", "aa 1", "install bb; remove aa(>=1.1)", "", "install #0 []; remove aa-10#1 [-2]; remove aa-2#1 [-3]; name aa-1#0 aa-10 [-1 -2]; name aa-1#0 aa-2 [-1 -3]; name aa-10#0 aa-2 [-2 -3]"},
		{"a removal of nothing", "aa 1", "", "remove zz; remove aa(<<1)", "", ""},
		{"two removals of one package", "aa 1", "", "remove aa(>=1); remove aa; remove aa(>=1)", "", "remove aa-1#0 [-1]"},
		{"an upgrade of several names, one held, one removed by a constraint that nothing fits", "aa 1; aa 2; bb 1; cc 1; dd 1", "cc 1; aa 1; bb 1", "remove bb(>>5); upgrade; upgrade", "aa",
			"upgrade aa-1#1 [1 2]; upgrade cc-1#1 [4]; hold aa-1#0 [1]; name aa-1#0 aa-2 [-1 -2]"},
		{"a removal behind the upgrade counts, too", "aa 1; bb 1", "aa 1; bb 1", "upgrade; remove aa", "", "upgrade bb-1#0 [2]; remove aa-1#1 [-1]"},
		{"holds, twice and of names of which nothing is installed", "aa 1; bb 1; bb 2", "bb 1", "", "zz; aa; bb; bb", "hold bb-1#2 [2]; name bb-1#0 bb-2 [-2 -3]"},
		{"a hold of what an install asks", "aa 1; bb 1", "aa 1; bb 1", "install bb", "aa; bb", "install #0 [2]; hold aa-1#0 [1]"},

		{"a package that meets its own Depends by its name", "aa 1 depends=zz|aa(=1.0)|bb; aa 1.0; bb 1", "", "", "", "name aa-1#0 aa-1.0 [-1 -2]; depends aa-1#0 [-1 2 3]"},
		{"the same, by order", "aa 1 depends=zz|aa(=0:1)|bb; bb 1", "", "", "", ""},
		{"a package that meets its own Pre-Depends", "aa 1 pre=aa|bb|xx provides=xx; aa 2; bb 1 provides=xx", "", "", "", "name aa-1#0 aa-2 [-1 -2]; pre aa-1#0 [-1 2 3]"},
		{"a package that meets its own Conflicts", "aa 1 conflicts=aa,xx provides=xx; bb 1 provides=xx", "", "", "", "conflict aa-1#1 bb-1 [-1 -2]"},
		{"a constraint is not met by Provides", "aa 1 depends=xx(>=1)|xx pre=xx(=1)|xx(>>0) conflicts=xx(>=1); bb 1 provides=xx", "", "", "", "depends aa-1#0 [-1 2]; pre aa-1#0 [-1]"},
		{"each satisfier once, where it comes first", "aa 1 depends=xx|bb|cc(=2)|cc; bb 1; cc 1 provides=xx; cc 2", "", "", "", "name cc-1#0 cc-2 [-3 -4]; depends aa-1#0 [-1 3 2 4]"},
		{"clauses that stand twice", "aa 1 depends=bb depends=xx depends=zz pre=bb pre=yy pre=zz; bb 1 provides=xx", "", "remove aa", "", "remove aa-1#0 [-1]; depends aa-1#0 [-1 2]"},
		{"the same literals in another order are another clause", "aa 1 depends=bb|cc depends=cc|bb; bb 1; cc 1", "", "install xx", "", "install #0 []; depends aa-1#0 [-1 2 3]; depends aa-1#1 [-1 3 2]"},
		{"conflicts of one name are of one name already", "aa 1 conflicts=aa files=f; aa 2 conflicts=aa(<<2) files=f", "", "", "", "name aa-1#0 aa-2 [-1 -2]"},
		{"a conflict with a lesser place", "aa 1; bb 1 conflicts=zz,aa(>>1),aa,aa(=1)", "", "", "", "conflict bb-1#2 aa-1 [-1 -2]"},
		{"conflicts by rising places, not by atoms", "aa 1; bb 1 conflicts=dd,cc,aa; cc 1; dd 1", "", "", "", "conflict bb-1#2 aa-1 [-1 -2]; conflict bb-1#1 cc-1 [-2 -3]; conflict bb-1#0 dd-1 [-2 -4]"},
		{"a conflict from both sides", "aa 1 conflicts=bb; bb 1 conflicts=aa", "", "", "", "conflict aa-1#0 bb-1 [-1 -2]"},
		{"a conflict ahead of a path", "aa 1 files=f; bb 1 files=f conflicts=aa; cc 1 conflicts=aa files=f", "", "", "", "path aa-1#0 bb-1 [-1 -2]; path aa-1#0 cc-1 [-1 -3]; path bb-1#0 cc-1 [-2 -3]"},
		{"conflicts and paths of one package", "aa 1 conflicts=cc files=f; bb 1 files=f; cc 1 files=f", "", "", "", "conflict aa-1#0 cc-1 [-1 -3]; path aa-1#0 bb-1 [-1 -2]; path bb-1#0 cc-1 [-2 -3]"},
		{"the first path of Who's", "aa 1 files=a,b,c; bb 1 files=0,b,c; cc 1 files=a,c", "", "", "", "path aa-1#1 bb-1 [-1 -2]; path aa-1#0 cc-1 [-1 -3]; path bb-1#2 cc-1 [-2 -3]"},
		{"no path but a whole one", "aa 1 files=a/b; bb 1 files=a; cc 1 files=a/b/c", "", "", "", ""},
		{"Depends, then Pre-Depends, then conflicts", "aa 1 conflicts=cc pre=bb depends=zz; bb 1; cc 1", "", "", "", "depends aa-1#0 [-1]; pre aa-1#0 [-1 2]; conflict aa-1#0 cc-1 [-1 -3]"},
		{"which clause", "aa 1 depends=aa depends=zz|bb pre=yy|bb pre=cc; bb 1; cc 1", "", "", "", "depends aa-1#1 [-1 2]; pre aa-1#1 [-1 3]"},
		{"the installed stanza is the universe's", "aa 1 depends=bb; bb 1", "aa 1", "", "", "depends aa-1#0 [-1 2]"},
	} {
		s := see(c.packages, c.installed, c.wishes, c.holds)
		rules, e := rulesOf(s)
		if got := strings.Join(tell(rules), "; "); got != c.want || e != api.OK {
			t.Errorf("P10.2: %s: Rules = %s, %d,\nwant %s", c.what, got, e, c.want)
		}
		s.hold(t)
	}
}

// P10.2, P10.3: pins and holds say in which order satisfiers come.
func TestLiking(t *testing.T) {
	for _, c := range []struct {
		what, installed, holds string
		pins                   []api.Pin
		clauses                [][]int // of the install of xx, the install of bb, the upgrade of bb
		prefer                 []int
	}{
		{"nothing", "", "", nil, [][]int{{1, 4, 3, 2}, {4, 3, 2}}, nil},
		{"installed", "bb 2", "", nil, [][]int{{1, 4, 3, 2}, {4, 3, 2}}, []int{4, 3}},
		{"held", "bb 2", "bb", nil, [][]int{{1, 3, 4, 2}, {3, 4, 2}}, []int{3}},
		{"pinned", "bb 2", "", []api.Pin{{Name: "bb", Op: api.OpLess, Version: "2", Priority: 1000}}, [][]int{{1, 2, 4, 3}, {2, 4, 3}}, []int{3}},
		{"pinned, and not installed", "", "", []api.Pin{{Name: "*", Op: api.OpEqual, Version: "2", Priority: 501}}, [][]int{{1, 3, 4, 2}, {3, 4, 2}}, nil},
		{"not wanted", "bb 1", "", []api.Pin{{Name: "bb", Op: api.OpEqual, Version: "3", Priority: -1}}, [][]int{{1, 3, 2, 4}, {3, 2, 4}}, []int{3, 2}},
	} {
		s := see("aa 1 provides=xx; bb 1 provides=xx; bb 2 provides=xx; bb 3 provides=xx", c.installed, "install xx; install bb; upgrade", c.holds)
		s.r.Pins = c.pins
		clauses, e := clausesOf(s)
		if e != api.OK || len(clauses) < 2 || !slices.EqualFunc(clauses[:2], c.clauses, slices.Equal) {
			t.Errorf("P10.2: %s: Clauses = %v, %d, want %v first", c.what, clauses, e, c.clauses)
		}
		if prefer, e := preferOf(s); e != api.OK || !slices.Equal(prefer, c.prefer) {
			t.Errorf("P10.3: %s: Prefer = %v, %d, want %v", c.what, prefer, e, c.prefer)
		}
		s.hold(t)
	}
}

// P10.3: Essential ones first, what would come ahead of what is there.
func TestPrefer(t *testing.T) {
	const packages = "aa 1; aa 2; bb 1 essential; bb 2; cc 1; cc 2 essential; dd 1 essential; ee 1; ee 1.0; ee 1.00"
	for _, c := range []struct {
		installed, wishes, holds string
		want                     []int
	}{
		{"", "", "", nil},
		{"", "upgrade; install aa", "aa", nil},
		{"aa 1; bb 1; cc 1; dd 1; ee 1.0", "", "", []int{3, 7, 1, 5, 9}},
		{"ee 1.0; dd 1; bb 1; cc 1; aa 1", "remove aa; install zz", "aa; bb", []int{3, 7, 1, 5, 9}},
		{"aa 1; bb 1; cc 1; dd 1; ee 1.0", "upgrade", "", []int{4, 3, 7, 2, 1, 6, 5, 9}},
		{"aa 1; bb 1; cc 2; dd 1; ee 1", "install zz; upgrade", "zz", []int{4, 3, 6, 7, 2, 1, 10, 8}},
		{"cc 1; bb 1; aa 1", "upgrade", "bb", []int{3, 2, 1, 6, 5}},
		{"cc 1; bb 1; aa 1", "upgrade; remove cc(>>5)", "aa; aa", []int{4, 3, 1, 6, 5}},
		{"aa 2; bb 2; cc 2", "upgrade; upgrade", "", []int{6, 2, 4}},
	} {
		s := see(packages, c.installed, c.wishes, c.holds)
		if got, e := preferOf(s); e != api.OK || !slices.Equal(got, c.want) {
			t.Errorf("P10.3: installed %s, %s, held %s: Prefer = %v, %d, want %v", c.installed, c.wishes, c.holds, got, e, c.want)
		}
		if got := s.prefer(); !slices.Equal(got, c.want) {
			t.Errorf("the oracle: %v", got)
		}
	}
}
