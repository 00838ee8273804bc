package why_test

import (
	"slices"
	"strings"
	"testing"

	"larder/api"
	"larder/samples"
	"larder/why"
)

// P20.1: on whom they lean, of what the document names.
func TestLeans(t *testing.T) {
	for _, c := range []struct {
		what, held string
		want       [][]int
	}{
		{"nothing", "", nil},
		{"one", "aa 1", [][]int{{}}},
		{"one that needs what is not there", "aa 1 depends=bb pre=cc|dd", [][]int{{}}},
		{"example 1", "aa 1 depends=bb; bb 1 auto depends=cc|dd; cc 1 auto; dd 1 auto", [][]int{{1}, {2}, {}, {}}},
		{"the first alternative that is there", "aa 1 depends=zz|dd|cc; cc 1; dd 1", [][]int{{2}, {}, {}}},
		{"likewise of a Pre-Depends", "aa 1 pre=zz|dd|cc; cc 1; dd 1", [][]int{{2}, {}, {}}},
		{"several clauses, places rising and once", "aa 1 depends=dd depends=bb depends=cc|bb pre=bb pre=ee; bb 1; cc 1; dd 1; ee 1", [][]int{{1, 2, 3, 4}, {}, {}, {}, {}}},
		{"places of a list whose names fall", "ee 1 depends=aa depends=cc; cc 1 depends=aa; aa 1 depends=ee", [][]int{{1, 2}, {2}, {0}}},

		{"the least name of those that provide it", "aa 1 depends=xx; cc 1 provides=xx; bb 1 provides=ww,xx,xx", [][]int{{2}, {}, {}}},
		{"a name and a lesser one that provides it", "zz 1 depends=mm; mm 1; bb 1 provides=mm", [][]int{{2}, {}, {}}},
		{"a name and a greater one that provides it", "zz 1 depends=mm; nn 1 provides=mm; mm 1", [][]int{{2}, {}, {}}},
		{"a constraint, which no Provides meets", "aa 1 depends=mm(>=1); bb 1 provides=mm; mm 1", [][]int{{2}, {}, {}}},
		{"a constraint, which only a Provides could meet", "aa 1 depends=mm(>=1) pre=mm(=1); bb 1 provides=mm", [][]int{{}, {}}},
		{"a version that does not fit: the next alternative", "aa 1 depends=bb(>=2)|cc; bb 1; cc 1", [][]int{{2}, {}, {}}},
		{"a version that fits", "aa 1 depends=bb(>=2)|cc; bb 2; cc 1", [][]int{{1}, {}, {}}},
		{"versions by their order", "aa 1 depends=bb(=1.0)|cc pre=cc(<<10); bb 1.00; cc 9", [][]int{{1, 2}, {}, {}}},
		{"versions by their order, with a tilde", "aa 1 depends=bb(>=1)|cc; bb 1~rc1; cc 1", [][]int{{2}, {}, {}}},

		{"itself by its name", "aa 1 depends=aa|bb; bb 1", [][]int{{}, {}}},
		{"itself by its name, behind another", "aa 1 depends=bb|aa; bb 1", [][]int{{1}, {}}},
		{"itself by a Provides, not as the least name", "mm 1 provides=xx depends=xx; aa 1 provides=xx", [][]int{{1}, {}}},
		{"itself by a Provides, as the least name", "mm 1 provides=xx depends=xx|zz; zz 1 provides=xx", [][]int{{}, {}}},
		{"its own Pre-Depends, which another meets", "mm 1 provides=xx pre=xx; zz 1 provides=xx", [][]int{{1}, {}}},
		{"its own Pre-Depends, which the next alternative meets", "mm 1 provides=xx pre=xx|mm|zz; zz 1", [][]int{{1}, {}}},
		{"its own Pre-Depends, which nobody else meets", "mm 1 provides=xx,xx pre=xx pre=mm; zz 1", [][]int{{}, {}}},
		{"its own Pre-Depends by a version", "mm 1 pre=mm(=1)|zz(=1); zz 1", [][]int{{1}, {}}},
		{"one clause as Depends and as Pre-Depends", "mm 1 provides=xx depends=xx pre=xx; nn 1 provides=xx; oo 1 provides=xx", [][]int{{1}, {}, {}}},

		{"a ring", "aa 1 depends=bb; bb 1 pre=cc; cc 1 depends=aa", [][]int{{1}, {2}, {0}}},
		{"two that need one another", "bb 1 depends=aa; aa 1 depends=bb", [][]int{{1}, {0}}},
		{"Conflicts are no need", "aa 1 conflicts=bb,xx; bb 1; cc 1 provides=xx", [][]int{{}, {}, {}}},
		{"files and what is provided neither", "aa 1 provides=bb files=f; bb 1 files=f", [][]int{{}, {}}},
		{"not Valid", "aa 1 depends=zz depends=bb conflicts=bb; bb 1 pre=bb", [][]int{{1}, {}}},
	} {
		rows, e := why.Leans(installed(c.held))
		if e != api.OK || !slices.EqualFunc(rows, c.want, slices.Equal) {
			t.Errorf("P20.1: %s: %v, %d, want %v", c.what, rows, e, c.want)
		}
		hold(t, installed(c.held))
	}
}

// tell tells keys by their names.
func tell(keys []api.Key) string {
	var names []string
	for _, k := range keys {
		names = append(names, k.Name)
	}
	return strings.Join(names, " ")
}

// P20.2: which chain, of several; who is manual, who has no chain.
func TestChain(t *testing.T) {
	example := "aa 1 depends=bb; bb 1 auto depends=cc|dd; cc 1 auto; dd 1 auto"
	ring := "aa 1 auto depends=bb; bb 1 auto depends=cc; cc 1 auto depends=aa; dd 1 depends=bb"
	for _, c := range []struct{ what, held, name, want string }{
		{"example 1", example, "cc", "aa bb cc"},
		{"example 1, who is manual", example, "aa", "aa"},
		{"example 1, one step", example, "bb", "aa bb"},
		{"example 1, on whom nobody leans", example, "dd", ""},
		{"one, manual", "aa 1", "aa", "aa"},
		{"one, automatic", "aa 1 auto", "aa", ""},
		{"a mark that is none", "aa 1 odd depends=bb; bb 1 below", "aa", ""},
		{"behind a mark that is none", "aa 1 odd depends=bb; bb 1 below", "bb", ""},
		{"none is manual", "aa 1 auto depends=bb; bb 1 auto", "bb", ""},
		{"all are manual", "aa 1 depends=bb; bb 1 depends=cc; cc 1", "cc", "cc"},
		{"manual, and others lean on it", "aa 1 depends=mm; mm 1 depends=nn; nn 1 auto", "mm", "mm"},
		{"behind a manual one that others lean on", "aa 1 depends=mm; mm 1 depends=nn; nn 1 auto", "nn", "mm nn"},
		{"Essential counts for nothing", "aa 1 auto essential depends=bb; bb 1 auto", "bb", ""},

		{"the shorter one, of a greater name", "aa 1 depends=bb; bb 1 auto depends=cc; cc 1 auto; zz 1 depends=cc", "cc", "zz cc"},
		{"they part at the first name", "zz 1 depends=tt; bb 1 depends=tt; cc 1 depends=tt; tt 1 auto", "tt", "bb tt"},
		{"they part at the first name, with greater ones behind it", "mm 1 depends=nn; aa 1 depends=zz; zz 1 auto depends=tt; nn 1 auto depends=tt; tt 1 auto", "tt", "aa zz tt"},
		{"they part at the second name", "aa 1 depends=mm depends=ll depends=nn; nn 1 auto depends=tt; mm 1 auto depends=tt; ll 1 auto depends=tt; tt 1 auto", "tt", "aa ll tt"},
		{"at the second, with greater ones behind it", "aa 1 depends=mm depends=ll; ll 1 auto depends=zz; mm 1 auto depends=bb; bb 1 auto depends=tt; zz 1 auto depends=tt; tt 1 auto", "tt", "aa ll zz tt"},
		{"they part at the last but one", "aa 1 depends=mm; mm 1 auto depends=yy depends=xx depends=zz; zz 1 auto depends=tt; xx 1 auto depends=tt; yy 1 auto depends=tt; tt 1 auto", "tt", "aa mm xx tt"},
		{"they part and meet again", "aa 1 depends=cc depends=bb; bb 1 auto depends=mm; cc 1 auto depends=mm; mm 1 auto depends=pp depends=oo; pp 1 auto depends=tt; oo 1 auto depends=tt; tt 1 auto", "tt", "aa bb mm oo tt"},
		{"names by bytes, not by places", "b2 1 depends=t1; b10 1 depends=t1; t1 1 auto", "t1", "b10 t1"},

		{"a ring behind a manual one", ring, "aa", "dd bb cc aa"},
		{"a ring, its beginning", ring, "bb", "dd bb"},
		{"a ring without a manual one", "aa 1 auto depends=bb; bb 1 auto depends=aa; cc 1", "aa", ""},
		{"manual in a ring", "aa 1 depends=bb; bb 1 auto depends=aa", "aa", "aa"},
		{"through itself", "aa 1 depends=aa depends=bb; bb 1 auto depends=bb depends=cc; cc 1 auto", "cc", "aa bb cc"},
		{"by Pre-Depends, Provides and versions", "aa 1 pre=xx; mm 1 auto provides=xx depends=yy(>=1.0); yy 2 auto pre=zz|ww; ww 1 auto", "ww", "aa mm yy ww"},
		{"only first satisfiers count", "aa 1 depends=xx depends=bb|cc; bb 1 auto provides=xx; cc 1 auto provides=xx", "cc", ""},
		{"another one's first satisfier", "aa 1 depends=bb|cc; bb 1 auto; cc 1 auto; dd 1 depends=cc|bb", "cc", "dd cc"},
	} {
		held := installed(c.held)
		chain, e := why.Chain(held, c.name)
		if e != api.OK || tell(chain) != c.want {
			t.Errorf("P20.2: %s: %v, %d, want %s", c.what, chain, e, c.want)
		}
		hold(t, held)
		slices.Reverse(held)
		hold(t, held)
	}
}

// P20.2, P20.3: versions are told as they are installed.
func TestVersions(t *testing.T) {
	held := installed("aa 1.00 depends=bb; bb 2:0-1 auto")
	want := []api.Key{{Name: "aa", Version: "1.00"}, {Name: "bb", Version: "2:0-1"}}
	if chain, e := why.Chain(held, "bb"); e != api.OK || !slices.Equal(chain, want) {
		t.Errorf("P20.2: %v, %d, want %v", chain, e, want)
	}
	if keys, e := why.Alone(held, "bb"); e != api.OK || !slices.Equal(keys, want[:1]) {
		t.Errorf("P20.3: %v, %d, want %v", keys, e, want[:1])
	}
}

// P20.3: who could not be without a package.
func TestAlone(t *testing.T) {
	for _, c := range []struct{ what, held, name, want string }{
		{"example 1, without dd", "aa 1 depends=bb; bb 1 auto depends=cc|dd; cc 1 auto", "cc", "bb"},
		{"example 1, with dd", "aa 1 depends=bb; bb 1 auto depends=cc|dd; cc 1 auto; dd 1 auto", "cc", ""},
		{"one", "aa 1", "aa", ""},
		{"one that needs itself", "aa 1 depends=aa", "aa", ""},
		{"nobody wants it", "aa 1 depends=bb; bb 1; cc 1", "cc", ""},
		{"several want it, by rising names", "zz 1 depends=mm; cc 1 pre=mm; nn 1 depends=yy|mm(=1); mm 1; aa 1", "mm", "cc nn zz"},
		{"who wants those that want it is not told", "aa 1 depends=bb; bb 1 depends=cc; cc 1", "cc", "bb"},
		{"another stands in by a Provides", "aa 1 depends=mm; mm 1; bb 1 provides=mm", "mm", ""},
		{"a Provides does not stand in for a version", "aa 1 depends=mm(>=1); mm 1; bb 1 provides=mm", "mm", "aa"},
		{"its own satisfier", "aa 1 depends=xx provides=xx; bb 1 provides=xx", "bb", ""},
		{"its own Pre-Depends", "aa 1 pre=xx provides=xx; bb 1 provides=xx", "bb", "aa"},
		{"one clause of several", "aa 1 depends=bb|cc pre=bb depends=cc; bb 1; cc 1", "bb", "aa"},
		{"not the first satisfier, and none stands in elsewhere", "aa 1 depends=bb|cc; bb 1; cc 1", "cc", ""},
		{"a set that is not Valid: what is not met is not told", "aa 1 depends=zz; bb 1 depends=mm depends=zz; mm 1 pre=zz conflicts=aa", "mm", "bb"},
		{"a ring", "aa 1 depends=bb; bb 1 depends=aa", "aa", "bb"},
		{"marks count for nothing", "aa 1 odd depends=bb; bb 1 below", "bb", "aa"},
	} {
		held := installed(c.held)
		keys, e := why.Alone(held, c.name)
		if e != api.OK || tell(keys) != c.want {
			t.Errorf("P20.3: %s: %v, %d, want %s", c.what, keys, e, c.want)
		}
		hold(t, held)
		slices.Reverse(held)
		hold(t, held)
	}
}

// P20.1 to P20.3: lists that have a name twice, and names that nobody has: which error comes first.
func TestErrors(t *testing.T) {
	for _, text := range []string{
		"aa 1; aa 1", "aa 1; aa 2 auto", "aa 1; bb 1; aa 1", "bb 1; aa 1; aa 2; cc 1", "aa 1; bb 1; cc 1; dd 1; ee 1; bb 2",
	} {
		if !set(installed(text)).hasTwice() {
			t.Errorf("the list %q is no good", text)
		}
		hold(t, installed(text))
	}
	for _, text := range []string{"", "aa 1", "aa 1 depends=zz provides=mail; bb 1 auto"} {
		hold(t, installed(text))
	}
	// A name that is only provided is nobody's.
	if _, e := why.Chain(installed("aa 1 provides=xx"), "xx"); e != api.ErrWhyNone {
		t.Errorf("P20.2: %d", e)
	}
}

// P20.1 to P20.3: packages that may not be are taken as they stand.
func TestOdd(t *testing.T) {
	atom := func(name string, op int, version string) api.Clause {
		return api.Clause{{Name: name, Op: op, Version: version}}
	}
	held := []api.Held{
		{Package: api.Package{Name: "", Version: "", Depends: []api.Clause{nil, {}, atom("\xff", 0, ""), atom("a", 0, "?"), atom("xx", 0, "?")}}},
		{Package: api.Package{Name: "a", Version: "x", PreDepends: []api.Clause{atom("", 0, ""), atom("b", 9, "1"), atom("b", -1, "1"), atom("b", api.OpEqual, "")}}, Mark: api.MarkAuto},
		{Package: api.Package{Name: "\xff", Version: "?", Provides: []string{"", "", "\xff"}, Depends: []api.Clause{atom("a", api.OpEqual, "x"), atom("", 0, "")}}, Mark: api.MarkAuto},
		{Package: api.Package{Name: "b", Version: "1", Provides: []string{"xx"}}, Mark: 1 << 40},
	}
	hold(t, held)
	want := [][]int{{1, 2, 3}, {0}, {0}, {}}
	if rows, e := why.Leans(held); e != api.OK || !slices.EqualFunc(rows, want, slices.Equal) {
		t.Errorf("P20.1: %v, %d, want %v", rows, e, want)
	}
	hold(t, append(held, api.Held{}))
}

// P20.1 to P20.3: all clauses of a few atoms, as Depends and as Pre-Depends of a package that meets some of them itself.
func TestClauses(t *testing.T) {
	t.Parallel()
	atoms := []string{"mm", "mm(=2)", "bb", "bb(>=2)", "xx", "xx(=1)", "zz"}
	count := 0
	for _, list := range samples.Lists(atoms, 3) {
		if len(list) == 0 {
			continue
		}
		for _, kind := range []string{"depends=", "pre="} {
			for _, provides := range []string{"", " provides=xx", " provides=bb,xx"} {
				text := "mm 1 " + kind + strings.Join(list, "|") + provides
				held := installed("nn 1 auto provides=xx; " + text + "; bb 1 auto; ll 1 auto provides=xx")
				if want := hold(t, held); len(want.leans[1]) > 0 {
					count++
				}
			}
		}
	}
	if count < 500 {
		t.Errorf("the clauses are no good: %d lean", count)
	}
}
