package order_test

import (
	"strings"
	"testing"

	"larder/api"
	"larder/order"
)

// toldLists tells lists of names as `aa bb; cc`.
func toldLists(lists [][]string) string {
	var texts []string
	for _, list := range lists {
		texts = append(texts, strings.Join(list, " "))
	}
	return strings.Join(texts, "; ")
}

// toldGraph tells edges as `aa>bb aa>cc`.
func toldGraph(names []string, needs [][]int) string {
	var edges []string
	for i, list := range needs {
		for _, j := range list {
			edges = append(edges, names[i]+">"+names[j])
		}
	}
	return strings.Join(edges, " ")
}

// P13.1: the document's examples, each kind of edge alone, and what draws none.
func TestGraph(t *testing.T) {
	for _, c := range []struct {
		what, s, t  string
		names, want string
		ends        string
	}{
		{"from none to none", "", "", "", "", ""},
		{"from a set to itself", "aa 1 depends=bb; bb 1", "aa 1 depends=bb; bb 1", "", "", ""},
		{"from none", "", "aa 1; bb 1", "aa bb", "", "aa; bb"},
		{"to none", "aa 1; bb 1", "", "aa bb", "", "aa; bb"},
		{"another version string of the same version", "aa 1.0", "aa 1.00", "aa", "", "aa"},

		{"example 1", "", "aa 1 depends=bb; bb 1", "aa bb", "aa>bb", "bb"},
		{"example 1: of one another", "", "aa 1 depends=bb; bb 1 depends=aa", "aa bb", "aa>bb bb>aa", "aa bb"},
		{"example 1: a Pre-Depends for one", "", "aa 1 pre=bb; bb 1 depends=aa", "aa bb", "aa>bb bb>aa", "aa bb"},
		{"example 2: exchanged", "aa 1", "aa 2", "aa", "", "aa"},
		{"example 2: gone", "aa 1", "", "aa", "", "aa"},
		{"example 3", "ll 1; pp 1 depends=ll(=1)", "ll 2; pp 2 pre=ll(>=2)", "ll pp", "ll>pp pp>ll", "ll pp"},
		{"example 4", "aa 1 depends=xx|yy; xx 1", "aa 1 depends=xx|yy; yy 1", "xx yy", "xx>yy", "yy"},
		{"example 5", "aa 1 files=f", "bb 1 files=f", "aa bb", "bb>aa", "aa"},
		{"example 5: with aa 2", "aa 1 files=f", "aa 2; bb 1 files=f", "aa bb", "bb>aa", "aa"},

		{"1: a Pre-Depends", "", "aa 1 pre=bb; bb 1", "aa bb", "aa>bb", "bb"},
		{"1: the second clauses", "", "aa 1 depends=aa depends=bb pre=cc pre=dd; bb 1; cc 1; dd 1", "aa bb cc dd", "aa>bb aa>cc aa>dd", "bb; cc; dd"},
		{"1: of what is exchanged", "aa 1; bb 1", "aa 2 depends=bb(=2); bb 2", "aa bb", "aa>bb", "bb"},
		{"1: what has the name goes, what provides it comes", "bb 1", "aa 1 depends=bb; cc 1 provides=bb", "aa bb cc", "aa>cc", "bb; cc"},
		{"1: the first alternative that the target has", "", "aa 1 depends=zz|cc|bb; bb 1; cc 1", "aa bb cc", "aa>cc", "bb; cc"},
		{"1: of several that provide it the least name", "", "aa 1 depends=xx; bb 1 provides=xx; cc 1 provides=xx; xx 1", "aa bb cc xx", "aa>bb", "bb; cc; xx"},
		{"1: the name itself, where it is the least", "", "bb 1; cc 1 provides=bb; dd 1 depends=bb", "bb cc dd", "dd>bb", "bb; cc"},
		{"1: a constraint that Provides does not meet", "", "aa 1 depends=xx(>=1); bb 1 provides=xx; xx 1", "aa bb xx", "aa>xx", "bb; xx"},
		{"1: a Pre-Depends that the package itself provides", "", "aa 1 provides=xx pre=xx; bb 1 provides=xx", "aa bb", "aa>bb", "bb"},
		{"1: a Pre-Depends whose first alternative is the package itself", "", "aa 1 pre=aa|cc; bb 1; cc 1", "aa bb cc", "aa>cc", "bb; cc"},

		{"2: a Depends", "aa 1 depends=bb; bb 1", "", "aa bb", "bb>aa", "aa"},
		{"2: a Pre-Depends", "aa 1 pre=bb; bb 1", "", "aa bb", "bb>aa", "aa"},
		{"2: the first satisfier in the state", "aa 1 depends=zz|cc|bb; bb 1; cc 1", "", "aa bb cc", "cc>aa", "aa; bb"},
		{"2: of several the least name", "bb 1 provides=xx; cc 1 provides=xx; dd 1 depends=xx", "", "bb cc dd", "bb>dd", "cc; dd"},
		{"2: a Pre-Depends that the package itself provides", "aa 1 provides=xx pre=xx; bb 1 provides=xx", "", "aa bb", "bb>aa", "aa"},
		{"2: of what is exchanged", "aa 1 depends=bb; bb 1", "aa 2", "aa bb", "bb>aa", "aa"},

		{"3: a Pre-Depends", "aa 1 pre=xx|yy; xx 1", "aa 1 pre=xx|yy; yy 1", "xx yy", "xx>yy", "yy"},
		{"3: by Provides", "aa 1 depends=xx; bb 1 provides=xx", "aa 1 depends=xx; cc 1 provides=xx", "bb cc", "bb>cc", "cc"},
		{"3: the first satisfiers of several", "aa 1 depends=xx; bb 1 provides=xx; cc 1 provides=xx", "aa 1 depends=xx; dd 1 provides=xx; ee 1 provides=xx", "bb cc dd ee", "bb>dd", "cc; dd; ee"},
		{"3: a Pre-Depends that the package itself provides", "aa 1 provides=xx pre=xx; bb 1 provides=xx", "aa 1 provides=xx pre=xx; cc 1 provides=xx", "bb cc", "bb>cc", "cc"},
		{"3: a Depends that the package itself provides", "aa 1 provides=xx depends=xx; bb 1 provides=xx", "aa 1 provides=xx depends=xx; cc 1 provides=xx", "bb cc", "", "bb; cc"},
		{"3: what it needs is exchanged", "aa 1 depends=ll; ll 1", "aa 1 depends=ll; ll 2", "ll", "", "ll"},
		{"3: what it needs first is exchanged, by another one", "aa 1 depends=ll(=1)|mm; ll 1; mm 1", "aa 1 depends=ll(=1)|mm; ll 2; mm 2", "ll mm", "ll>mm", "mm"},

		{"4: Conflicts of what comes", "bb 1", "aa 1 conflicts=bb", "aa bb", "aa>bb", "bb"},
		{"4: Conflicts of what goes", "bb 1 conflicts=aa", "aa 1", "aa bb", "aa>bb", "bb"},
		{"4: Conflicts of what comes with what is provided", "bb 1 provides=xx; cc 1 provides=xx", "aa 1 conflicts=xx", "aa bb cc", "aa>bb aa>cc", "bb; cc"},
		{"4: Conflicts of what goes with what is provided", "aa 1 conflicts=xx", "bb 1 provides=xx; cc 1 provides=xx", "aa bb cc", "bb>aa cc>aa", "aa"},
		{"4: Conflicts within a constraint", "bb 1", "aa 1 conflicts=bb(<<2); bb 2", "aa bb", "aa>bb", "bb"},
		{"4: Conflicts beyond a constraint", "bb 1; cc 1", "aa 1 conflicts=bb(>>1)", "aa bb cc", "", "aa; bb; cc"},
		{"4: Conflicts with a constraint and Provides", "bb 1 provides=xx", "aa 1 conflicts=xx(>=0)", "aa bb", "", "aa; bb"},
		{"4: Conflicts with the own name", "aa 1", "aa 2 conflicts=aa(<<2)", "aa", "", "aa"},
		{"4: a path of several", "aa 1 files=a,f,g; bb 1 files=h", "cc 1 files=b,g,h", "aa bb cc", "cc>aa cc>bb", "aa; bb"},
		{"4: the package's own path", "aa 1 files=f", "aa 2 files=f", "aa", "", "aa"},
		{"4: a path within another", "aa 1 files=f", "bb 1 files=f/g", "aa bb", "", "aa; bb"},
		{"4: paths that change hands", "aa 1 files=f; bb 1 files=g", "aa 2 files=g; bb 2 files=f", "aa bb", "aa>bb bb>aa", "aa bb"},

		{"what stays meets it", "bb 1", "aa 1 depends=bb pre=bb; bb 1", "aa", "", "aa"},
		{"what stays meets it by a later alternative", "cc 1", "aa 1 depends=bb|cc pre=bb|cc; bb 1; cc 1", "aa bb", "", "aa; bb"},
		{"what stays meets it for what goes", "aa 1 depends=bb|cc pre=bb|cc; bb 1; cc 1", "cc 1", "aa bb", "", "aa; bb"},
		{"what stays meets it for what stays", "aa 1 depends=bb|cc pre=bb|cc; bb 1; cc 1", "aa 1 depends=bb|cc pre=bb|cc; cc 1", "bb", "", "bb"},
		{"what stays provides it", "cc 1 provides=xx", "aa 1 depends=xx; bb 1 provides=xx; cc 1 provides=xx", "aa bb", "", "aa; bb"},
		{"what stays does not fit", "cc 1", "aa 1 depends=cc(>>1)|bb; bb 1; cc 1", "aa bb", "aa>bb", "bb"},
		{"the first satisfier is the package itself", "", "aa 1 provides=xx depends=xx depends=aa|bb; bb 1 provides=xx", "aa bb", "", "aa; bb"},
		{"the package itself meets it, another one first", "", "aa 1 provides=xx; bb 1 provides=xx depends=xx depends=aa|bb", "aa bb", "bb>aa", "aa"},
		{"the first satisfier of what goes is the package itself", "aa 1 provides=xx depends=xx; bb 1 provides=xx", "", "aa bb", "", "aa; bb"},

		{
			"an edge of all kinds stands once", "aa 1; bb 1 depends=aa depends=aa conflicts=aa(=2),aa(>>1) files=f,g; cc 1 depends=aa(=1)|bb(=2)",
			"aa 2 depends=bb(=2) pre=bb(>=2) files=f,g; bb 2; cc 1 depends=aa(=1)|bb(=2)", "aa bb", "aa>bb", "bb",
		},
		{"parts of several units, and between them", "", "aa 1 depends=ee; bb 1 depends=dd; cc 1 depends=aa; dd 1 depends=bb depends=aa; ee 1 depends=aa; ff 1 depends=ff", "aa bb cc dd ee ff", "aa>ee bb>dd cc>aa dd>aa dd>bb ee>aa", "aa ee; ff"},
	} {
		w := see(c.s, c.t)
		names, needs, e := order.Graph(w.s, w.t)
		if e != api.OK || strings.Join(names, " ") != c.names || toldGraph(names, needs) != c.want || len(needs) != len(names) {
			t.Errorf("P13.1: %s: Graph = %q, %q, %d, want %q, %q", c.what, names, toldGraph(names, needs), e, c.names, c.want)
		}
		if got, e := order.Changes(w.s, w.t); e != api.OK || strings.Join(got, " ") != c.names {
			t.Errorf("P13.1: %s: Changes = %q, %d, want %q", c.what, got, e, c.names)
		}
		if got, e := order.Ends(w.s, w.t); e != api.OK || toldLists(got) != c.ends {
			t.Errorf("P13.1: %s: Ends = %q, %d, want %q", c.what, got, e, c.ends)
		}
		hold(t, w)
	}
}

// P13.2: the names of what goes and comes, and what meets the Pre-Depends of what comes.
func TestAdmissible(t *testing.T) {
	const s, target = "ll 1; mm 1; pp 1 depends=ll(=1); ss 1; tt 1 provides=xx", "ll 2; pp 2 pre=ll(>=2); qq 1 pre=ll; rr 1 pre=zz|mm|ss; ss 1; uu 1 provides=xx pre=xx; vv 1 pre=qq pre=ss; ww 1 provides=xx depends=qq"
	for _, c := range []struct {
		what, names string
		is          bool
		e           api.Errno
	}{
		{"no names", "", true, api.OK},
		{"nothing comes", "mm", true, api.OK},
		{"without Pre-Depends", "ll", true, api.OK},
		{"a Depends that is not met", "ww", true, api.OK},
		{"what stays meets it", "rr", true, api.OK},
		{"what stays meets it, another alternative goes along", "mm rr", true, api.OK},
		{"what goes with another unit meets it", "qq", true, api.OK},
		{"only what goes in the same batch meets it", "ll qq", false, api.OK},
		{"only what comes in the same batch meets it", "ll pp", false, api.OK},
		{"what is there does not fit", "pp", false, api.OK},
		{"only another clause is met", "vv", false, api.OK},
		{"the package itself provides it, and what goes with another unit", "uu", true, api.OK},
		{"the package itself provides it, and what goes in the same batch", "tt uu", false, api.OK},
		{"the second of two is not met", "ll mm vv", false, api.OK},
		{"the first of two is not met", "pp qq", false, api.OK},
		{"all that changes", "ll mm pp qq rr tt uu vv ww", false, api.OK},

		{"names that do not rise", "pp ll", false, api.ErrOrdNames},
		{"names that do not rise at the end", "ll pp mm", false, api.ErrOrdNames},
		{"a name twice", "ll ll", false, api.ErrOrdNames},
		{"a name that stays", "ss", false, api.ErrOrdNames},
		{"a name that stays, among others", "rr ss tt", false, api.ErrOrdNames},
		{"nobody's name", "zz", false, api.ErrOrdNames},
		{"a name that is only provided", "xx", false, api.ErrOrdNames},
	} {
		w := see(s, target)
		got, e := order.Admissible(w.s, w.t, strings.Fields(c.names))
		if got != c.is || e != c.e {
			t.Errorf("P13.2: %s: Admissible(%s) = %t, %d, want %t, %d", c.what, c.names, got, e, c.is, c.e)
		}
	}
	for _, names := range [][]string{{""}, {"", "ll"}, {"ll", ""}, {"LL"}, {"ll 1"}, {"\xff"}} {
		w := see(s, target)
		if got, e := order.Admissible(w.s, w.t, names); got || e != api.ErrOrdNames {
			t.Errorf("P13.2: Admissible(%q) = %t, %d", names, got, e)
		}
	}
	w := see(s, s)
	if got, e := order.Admissible(w.s, w.t, []string{"ll"}); got || e != api.ErrOrdNames {
		t.Errorf("P13.2: where nothing changes: %t, %d", got, e)
	}
}

// P13.2: R.
func TestKept(t *testing.T) {
	for _, c := range []struct{ what, s, t, want string }{
		{"none and none", "", "", ""},
		{"none", "", "aa 1", ""},
		{"nothing in common", "aa 1; bb 1", "aa 2; cc 1", ""},
		{"a set and itself", "aa 1 depends=bb; bb 1 pre=cc; cc 1", "aa 1 depends=bb; bb 1 pre=cc; cc 1", "aa1 bb1 cc1"},
		{"one whose Depends goes", "aa 1 depends=bb; bb 1; cc 1", "aa 1 depends=bb; bb 2; cc 1", "cc1"},
		{"one whose Pre-Depends goes", "aa 1 pre=bb; bb 1; cc 1", "aa 1 pre=bb; bb 2; cc 1", "cc1"},
		{"one behind the other", "aa 1 depends=bb; bb 1 depends=cc; cc 1 pre=dd; dd 1; ee 1", "aa 1 depends=bb; bb 1 depends=cc; cc 1 pre=dd; dd 2; ee 1", "ee1"},
		{"another alternative stays", "aa 1 depends=bb|cc; bb 1; cc 1", "aa 1 depends=bb|cc; bb 2; cc 1", "aa1 cc1"},
		{"those that need one another", "aa 1 depends=bb; bb 1 pre=aa; cc 1", "aa 1 depends=bb; bb 1 pre=aa", "aa1 bb1"},
		{"its own Depends", "aa 1 provides=xx depends=xx; bb 1 provides=xx", "aa 1 provides=xx depends=xx", "aa1"},
		{"its own Pre-Depends", "aa 1 provides=xx pre=xx; bb 1 provides=xx", "aa 1 provides=xx pre=xx; bb 2 provides=xx", ""},
	} {
		w := see(c.s, c.t)
		if got, e := order.Kept(w.s, w.t); e != api.OK || toldKeys(got) != c.want {
			t.Errorf("P13.2: %s: Kept = %q, %d, want %q", c.what, toldKeys(got), e, c.want)
		}
		hold(t, w)
	}
}

// P13.3, P13.5, P13.7, P13.10: the document's examples and its edges.
func TestPlan(t *testing.T) {
	const knot = "aa 1 pre=bb; bb 1 depends=aa"
	for _, c := range []struct {
		what, s, t string
		want       string
		e          api.Errno
		displaced  string
	}{
		{"from none to none", "", "", "", api.OK, ""},
		{"from a set to itself", "aa 1 pre=bb; bb 1 depends=aa", "aa 1 pre=bb; bb 1 depends=aa", "", api.OK, ""},
		{"from none", "", "aa 1; bb 1; cc 1", "+aa1; +bb1; +cc1", api.OK, ""},
		{"to none", "aa 1; bb 1; cc 1", "", "-aa1; -bb1; -cc1", api.OK, ""},

		{"example 1", "", "aa 1 depends=bb; bb 1", "+bb1; +aa1", api.OK, ""},
		{"example 1: of one another", "", "aa 1 depends=bb; bb 1 depends=aa", "+aa1 +bb1", api.OK, ""},
		{"example 1: a Pre-Depends for the first", "", knot, "", api.ErrOrdCycle, ""},
		{"example 1: a Pre-Depends for the second", "", "aa 1 depends=bb; bb 1 pre=aa", "", api.ErrOrdCycle, ""},
		{"example 2: exchanged", "aa 1", "aa 2", "-aa1 +aa2", api.OK, ""},
		{"example 2: gone", "aa 1", "", "-aa1", api.OK, ""},
		{"example 3", "ll 1; pp 1 depends=ll(=1)", "ll 2; pp 2 pre=ll(>=2)", "-ll1 -pp1; +ll2; +pp2", api.OK, ""},
		{"example 4", "aa 1 depends=xx|yy; xx 1", "aa 1 depends=xx|yy; yy 1", "+yy1; -xx1", api.OK, ""},
		{"example 5", "aa 1 files=f", "bb 1 files=f", "-aa1; +bb1", api.OK, ""},
		{"example 5: with aa 2", "aa 1 files=f", "aa 2; bb 1 files=f", "-aa1 +aa2; +bb1", api.OK, ""},

		{"what stays is not touched", "aa 1 depends=ll; ll 1", "aa 1 depends=ll; ll 2", "-ll1 +ll2", api.OK, ""},
		{"what goes, goes ahead of what it needs", "aa 1 depends=bb; bb 1 depends=cc; cc 1", "", "-aa1; -bb1; -cc1", api.OK, ""},
		{"what goes at one stroke", "aa 1 depends=bb; bb 1 pre=aa", "", "-aa1 -bb1", api.OK, ""},
		{"a path that one leaves and another one takes", "aa 1 files=f; bb 1 files=g", "aa 2 files=g; bb 2 files=h", "-bb1 +bb2; -aa1 +aa2", api.OK, ""},
		{"paths that change hands", "aa 1 files=f; bb 1 files=g", "aa 2 files=g; bb 2 files=f", "-aa1 -bb1 +aa2 +bb2", api.OK, ""},
		{"conflicts on either side", "bb 1; cc 1 conflicts=dd", "aa 1 conflicts=bb; dd 1", "-bb1; +aa1; -cc1; +dd1", api.OK, ""},
		{"a Pre-Depends that the package itself provides", "", "aa 1 provides=xx pre=xx; bb 1 provides=xx", "+bb1; +aa1", api.OK, ""},
		{"a Pre-Depends that the package itself provides, of what goes", "aa 1 provides=xx pre=xx; bb 1 provides=xx", "", "-aa1; -bb1", api.OK, ""},
		{"a Pre-Depends that what goes has met, and what comes will", "mm 1", "aa 1 pre=mm|nn; nn 1", "-mm1; +nn1; +aa1", api.OK, ""},
		{"a Pre-Depends that is met ahead by what goes later", "mm 1; zz 1 depends=mm", "aa 1 pre=mm|nn; nn 1", "+nn1; +aa1; -zz1; -mm1", api.OK, ""},
		{"a part whose Pre-Depends what stays meets", "cc 1", "aa 1 depends=bb pre=cc; bb 1 depends=aa; cc 1", "+aa1 +bb1", api.OK, ""},
		{"a part whose Pre-Depends what goes in another batch meets", "cc 1; dd 1 provides=cc depends=ee; ee 1", "aa 1 depends=bb pre=cc; bb 1 depends=aa; dd 1 provides=cc depends=ee; ee 1", "+aa1 +bb1; -cc1", api.OK, ""},
		{
			"a Pre-Depends that only what goes in the same batch meets", "aa 1 depends=bb(=1); bb 1", "aa 2 pre=bb; bb 2 depends=aa(=2)",
			"", api.ErrOrdCycle, "",
		},
		{
			"a Pre-Depends that what goes in the same batch meets, and what stays", "aa 1 depends=bb(=1); bb 1; cc 1 provides=bb", "aa 2 pre=bb depends=bb(=2); bb 2 depends=aa(=2); cc 1 provides=bb",
			"-aa1 -bb1 +aa2 +bb2", api.OK, "",
		},
		{"a later end is the first that is admissible", "", knot + "; cc 1; dd 1", "", api.ErrOrdCycle, ""},
		{"a later end lets an earlier one go", "", "aa 1 pre=bb|dd; bb 1 depends=aa; dd 1", "+dd1; +aa1; +bb1", api.OK, ""},
		{"a later end cuts a part in two", "", "aa 1 depends=bb; bb 1 depends=aa|dd pre=ee|ff; dd 1; ee 1 depends=aa; ff 1", "+dd1; +ff1; +bb1; +aa1; +ee1", api.OK, ""},
		{"what comes meets a clause of what comes, whose first satisfier can wait then", "", "aa 1 provides=xx; bb 1 depends=cc|xx; cc 1", "+aa1; +bb1; +cc1", api.OK, ""},
		{"what comes meets a clause of what goes, whose first satisfier can go then", "bb 1; cc 1 depends=bb|aa", "aa 1", "+aa1; -bb1; -cc1", api.OK, ""},
		{"what comes meets a clause of what stays, whose first satisfier can go then", "bb 1; ss 1 depends=bb|cc|aa", "aa 1; cc 1; ss 1 depends=bb|cc|aa", "+aa1; -bb1; +cc1", api.OK, ""},
		{"what comes provides a name, and does not meet its constraint; what has the name does", "", "aa 1 provides=bb; bb 1; cc 1 depends=dd|bb(=1); dd 1", "+aa1; +bb1; +cc1; +dd1", api.OK, ""},
		{"what comes at last meets a clause that two have waited for", "", "aa 1 depends=bb|dd; bb 1 depends=cc|dd; cc 1 pre=bb|dd; dd 1", "+dd1; +aa1; +bb1; +cc1", api.OK, ""},

		{
			"one that is displaced", "aa 1 depends=ll; ll 1; yy 1 depends=ll(=1)", "aa 1 depends=ll; ll 2; yy 2 pre=ll(=2)",
			"-aa1 -ll1 -yy1; +ll2; +aa1; +yy2", api.OK, "aa1",
		},
		{
			"some are displaced, some are kept", "aa 1 depends=bb; bb 1 pre=ll; cc 1 depends=dd; dd 1; ll 1; yy 1 depends=ll(=1)", "aa 1 depends=bb; bb 1 pre=ll; cc 1 depends=dd; dd 1; ll 2; yy 2 pre=ll(=2)",
			"-aa1 -bb1 -ll1 -yy1; +ll2; +bb1; +aa1; +yy2", api.OK, "aa1 bb1",
		},
		{
			"what has come is displaced, too, and is not told", "ll 1; qq 1 depends=yy; yy 1 depends=ll(=1)", "ll 2; qq 1 depends=yy; xx 1 depends=qq; yy 2 pre=ll(=2)",
			"+xx1; -ll1 -qq1 -xx1 -yy1; +ll2; +yy2; +qq1; +xx1", api.OK, "qq1",
		},
		{
			"batches ahead of a displacing one", "bb 1; ll 1; yy 1 depends=ll(=1)", "aa 1; ll 2; yy 2 pre=ll(=2); zz 1 depends=aa",
			"+aa1; -bb1; +zz1; -ll1 -yy1; +ll2; +yy2", api.OK, "",
		},
		{
			"what has come, not by rising names, is displaced", "ll 1; qq 1 depends=yy; yy 1 depends=ll(=1)", "aa 1 depends=bb; bb 1 depends=qq; ll 2; qq 1 depends=yy; yy 2 pre=ll(=2)",
			"+bb1; +aa1; -aa1 -bb1 -ll1 -qq1 -yy1; +ll2; +yy2; +qq1; +bb1; +aa1", api.OK, "qq1",
		},
		{
			"what has come, not by rising names, meets a clause", "cc 1 depends=dd; dd 1", "aa 1 depends=bb provides=xx; bb 1 provides=xx; cc 1 depends=dd; dd 2 depends=zz|ee; ee 1 depends=xx; ff 1 pre=xx; zz 1 depends=ee pre=xx",
			"+bb1; +aa1; +ee1; -dd1 +dd2; +ff1; +zz1", api.OK, "",
		},
		{"a cycle behind a displacing batch", "ll 1; yy 1 depends=ll(=1)", "ll 2 depends=yy; yy 2 pre=ll(=2)", "", api.ErrOrdCycle, ""},
		{"a cycle with nothing kept", "cc 1", knot, "", api.ErrOrdCycle, ""},
		{"a cycle with something kept", "cc 1; dd 1 depends=cc", knot + "; cc 1; dd 1 depends=cc", "", api.ErrOrdCycle, ""},
		{"a cycle with something kept, by a displacing batch", "aa 1; cc 1; dd 1 depends=ee; ee 1", "aa 2 pre=bb; bb 1 depends=aa; cc 1; dd 1 depends=ee; ee 2 depends=aa", "", api.ErrOrdCycle, ""},
		{"no cycle, since what stays meets it", "cc 1", "aa 1 pre=bb|cc; bb 1 depends=aa; cc 1", "+aa1; +bb1", api.OK, ""},
		{"no cycle, though another choice were one", "cc 1 provides=bb", "aa 1 pre=bb; bb 1 depends=aa; cc 1 provides=bb", "+aa1; +bb1", api.OK, ""},
		{"a cycle, though another choice were none", "", "aa 1 pre=bb|cc; bb 1 depends=aa; cc 1 depends=bb", "", api.ErrOrdCycle, ""},
	} {
		w := see(c.s, c.t)
		plan, e := order.Plan(w.s, w.t)
		if told(plan) != c.want || e != c.e {
			t.Errorf("P13.5: %s: Plan = %q, %d, want %q, %d", c.what, told(plan), e, c.want, c.e)
		}
		if e == api.OK {
			if e := order.Check(w.s, w.t, plan); e != api.OK {
				t.Errorf("P13.7: %s: Check = %d", c.what, e)
			}
			if got, e := order.Displaced(w.s, w.t, plan); e != api.OK || toldKeys(got) != c.displaced {
				t.Errorf("P13.10: %s: Displaced = %q, %d, want %q", c.what, toldKeys(got), e, c.displaced)
			}
		}
		hold(t, w)
	}
}
