package order_test

import (
	"reflect"
	"slices"
	"testing"

	"larder/api"
	"larder/order"
	"larder/samples"
)

const (
	someState  = "aa 1; bb 1 depends=aa; dd 1 files=f; ff 1"
	someTarget = "aa 2 depends=bb; bb 1 depends=aa; cc 1 pre=aa(=2) conflicts=dd; ee 1 files=f; ff 1"
)

// P13.4: each thing that a batch may not be, and the state behind.
func TestBehind(t *testing.T) {
	for _, c := range []struct {
		what, batch string
		want        string
		e           api.Errno
	}{
		{"nothing", ".", "aa1 bb1 dd1 ff1", api.OK},
		{"exchanged", "-aa1 +aa2", "aa2 bb1 dd1 ff1", api.OK},
		{"one goes", "-dd1", "aa1 bb1 ff1", api.OK},
		{"one comes in between", "+cc1", "aa1 bb1 cc1 dd1 ff1", api.OK},
		{"all goes", "-aa1 -bb1 -dd1 -ff1", "", api.OK},
		{"all is done", "-aa1 -dd1 +aa2 +cc1 +ee1", "aa2 bb1 cc1 ee1 ff1", api.OK},
		{"a state that is not Valid", "-aa1", "bb1 dd1 ff1", api.OK},
		{"a state with conflicts and one path", "+cc1 +ee1", "aa1 bb1 cc1 dd1 ee1 ff1", api.OK},
		{"a Pre-Depends that is not met", "+cc1", "aa1 bb1 cc1 dd1 ff1", api.OK},
		{"one goes that stays", "-bb1", "aa1 dd1 ff1", api.OK},

		{"Out: not in the state", "-cc1", "", api.ErrOrdPlan},
		{"Out: another version", "-aa2", "", api.ErrOrdPlan},
		{"Out: nobody", "-zz1", "", api.ErrOrdPlan},
		{"Out: the second is not in the state", "-aa1 -bb2", "", api.ErrOrdPlan},
		{"In: not in the target", "-dd1 +dd1", "", api.ErrOrdPlan},
		{"In: another version", "-aa1 +aa3", "", api.ErrOrdPlan},
		{"In: the state's version", "-aa1 +aa1", "", api.ErrOrdPlan},
		{"In: nobody", "+zz1", "", api.ErrOrdPlan},
		{"In: the second is not in the target", "+cc1 +ee2", "", api.ErrOrdPlan},
		{"Out does not rise", "-bb1 -aa1", "", api.ErrOrdPlan},
		{"Out does not rise at the end", "-aa1 -dd1 -bb1", "", api.ErrOrdPlan},
		{"Out has one twice", "-aa1 -aa1", "", api.ErrOrdPlan},
		{"In does not rise", "+ee1 +cc1", "", api.ErrOrdPlan},
		{"In has one twice", "+cc1 +cc1", "", api.ErrOrdPlan},
		{"a key in both", "-bb1 +bb1", "", api.ErrOrdPlan},
		{"a key in both, among others", "-aa1 -bb1 -dd1 +aa2 +bb1", "", api.ErrOrdPlan},
		{"one comes whose name's package does not go", "+aa2", "", api.ErrOrdPlan},
		{"one comes that is there", "+bb1", "", api.ErrOrdPlan},
		{"one comes whose name's package does not go, but others", "-bb1 -dd1 +aa2 +cc1", "", api.ErrOrdPlan},
	} {
		w := see(someState, someTarget)
		b := batch(c.batch)
		got, e := order.Behind(w.s, w.t, b)
		if e != c.e || toldKeys(keys(got)) != c.want {
			t.Errorf("P13.4: %s: Behind(%s) = %q, %d, want %q, %d", c.what, c.batch, toldKeys(keys(got)), e, c.want, c.e)
		}
		if want, e2 := w.behind(b); e2 != e || !reflect.DeepEqual(slices.Concat(got), slices.Concat(want)) {
			t.Errorf("P13.4: %s: Behind(%s) = %+v, %d, want %+v, %d", c.what, c.batch, got, e, want, e2)
		}
	}
}

// P13.4: keys that are none.
func TestOddKeys(t *testing.T) {
	for _, k := range []api.Key{{}, {Name: "aa"}, {Version: "1"}, {Name: "AA", Version: "1"}, {Name: "aa", Version: "?"}, {Name: "aa", Version: "1.0"}, {Name: "\xff", Version: "\x00"}} {
		w := see(someState, someTarget)
		for _, b := range []api.Batch{{Out: []api.Key{k}}, {In: []api.Key{k}}, {Out: []api.Key{k}, In: []api.Key{k}}} {
			if got, e := order.Behind(w.s, w.t, b); len(got) > 0 || e != api.ErrOrdPlan {
				t.Errorf("P13.4: Behind(%+v) = %v, %d", b, got, e)
			}
			if e := order.Check(w.s, w.t, []api.Batch{b}); e != api.ErrOrdPlan {
				t.Errorf("P13.6: Check(%+v) = %d", b, e)
			}
		}
	}
	if got, e := order.Behind(nil, nil, api.Batch{Out: []api.Key{{}}}); len(got) > 0 || e != api.ErrOrdPlan {
		t.Errorf("P13.4: no key, out of none: %v, %d", got, e)
	}
	if got, e := order.Behind(nil, nil, api.Batch{In: []api.Key{{}}}); len(got) > 0 || e != api.ErrOrdPlan {
		t.Errorf("P13.4: no key, into none: %v, %d", got, e)
	}
	if got, e := order.Behind(nil, nil, api.Batch{}); len(got) > 0 || e != api.OK {
		t.Errorf("P13.4: nothing, of none: %v, %d", got, e)
	}
}

// P13.6, P13.10: plans that are none, plans that Plan does not tell.
func TestCheck(t *testing.T) {
	for _, c := range []struct {
		what, plan string
		e          api.Errno
		displaced  string
	}{
		{"Plan's", "-aa1 +aa2; -dd1; +cc1; +ee1", api.OK, ""},
		{"another order", "-dd1; +ee1; -aa1 +aa2; +cc1", api.OK, ""},
		{"one batch in the place of two", "-aa1 -dd1 +aa2; +cc1 +ee1", api.OK, ""},
		{"a path and a conflict within one batch", "-aa1 +aa2; -dd1 +cc1 +ee1", api.OK, ""},
		{"one is displaced", "-aa1 -bb1; +aa2 +bb1; -dd1; +cc1; +ee1", api.OK, "bb1"},
		{"all is displaced", "-aa1 -bb1 -dd1 -ff1; +aa2 +bb1; +cc1; +ee1; +ff1", api.OK, "bb1 ff1"},
		{"one is displaced twice", "-ff1; +ff1; -ff1; -aa1 +aa2; -dd1; +cc1; +ee1; +ff1", api.OK, "ff1"},
		{"one comes, goes and comes", "-aa1 +aa2; -dd1; +cc1; -cc1; +cc1; +ee1", api.OK, ""},
		{"what goes comes in no other batch", "-dd1; +ee1; -ee1; +ee1; -aa1 +aa2; +cc1", api.OK, ""},

		{"no batch", "", api.ErrOrdPlan, ""},
		{"a batch too few at the end", "-aa1 +aa2; -dd1; +cc1", api.ErrOrdPlan, ""},
		{"a batch too few at first", "-dd1; +cc1; +ee1", api.ErrOrdPlan, ""},
		{"a batch too many", "-aa1 +aa2; -dd1; +cc1; +ee1; -ff1", api.ErrOrdPlan, ""},
		{"a batch twice", "-aa1 +aa2; -dd1; +cc1; +ee1; +ee1", api.ErrOrdPlan, ""},
		{"an empty batch at first", ".; -aa1 +aa2; -dd1; +cc1; +ee1", api.ErrOrdPlan, ""},
		{"an empty batch between", "-aa1 +aa2; .; -dd1; +cc1; +ee1", api.ErrOrdPlan, ""},
		{"an empty batch at last", "-aa1 +aa2; -dd1; +cc1; +ee1; .", api.ErrOrdPlan, ""},
		{"all at one stroke", "-aa1 -dd1 +aa2 +cc1 +ee1", api.ErrOrdPlan, ""},
		{"Out that is not in the state", "-aa1 +aa2; -dd1; -dd1; +cc1; +ee1", api.ErrOrdPlan, ""},
		{"In that is not in the target", "-dd1; +dd1; -aa1 +aa2; -dd1; +cc1; +ee1", api.ErrOrdPlan, ""},
		{"Out that does not rise", "-dd1 -aa1 +aa2; +cc1; +ee1", api.ErrOrdPlan, ""},
		{"In that does not rise", "-aa1 +aa2; -dd1; +ee1 +cc1", api.ErrOrdPlan, ""},
		{"a key in both", "-aa1 -ff1 +aa2 +ff1; -dd1; +cc1; +ee1", api.ErrOrdPlan, ""},
		{"one comes whose name's package does not go", "+aa2; -aa1; -dd1; +cc1; +ee1", api.ErrOrdPlan, ""},
		{"a Depends that is not met between", "-aa1; +aa2; -dd1; +cc1; +ee1", api.ErrOrdPlan, ""},
		{"a conflict between", "-aa1 +aa2; +cc1; -dd1; +ee1", api.ErrOrdPlan, ""},
		{"a path in two between", "+ee1; -aa1 +aa2; -dd1; +cc1", api.ErrOrdPlan, ""},
		{"a Pre-Depends that comes with the same batch", "-dd1; -aa1 +aa2 +cc1; +ee1", api.ErrOrdPlan, ""},
		{"not to be mended by what follows", "-aa1; -bb1; +aa2 +bb1; -dd1; +cc1; +ee1", api.ErrOrdPlan, ""},
	} {
		w := see(someState, someTarget)
		plan := batches(c.plan)
		if e := order.Check(w.s, w.t, plan); e != c.e || w.check(plan) != c.e {
			t.Errorf("P13.6: %s: Check(%s) = %d, want %d", c.what, c.plan, e, c.e)
		}
		if got, e := order.Displaced(w.s, w.t, plan); e != c.e || toldKeys(got) != c.displaced {
			t.Errorf("P13.10: %s: Displaced(%s) = %q, %d, want %q, %d", c.what, c.plan, toldKeys(got), e, c.displaced, c.e)
		}
	}
	w := see(someState, someTarget)
	if plan, e := order.Plan(w.s, w.t); e != api.OK || told(plan) != "-aa1 +aa2; -dd1; +cc1; +ee1" {
		t.Errorf("P13.5: %q, %d", told(plan), e)
	}
}

// P13.6: whose Pre-Depends is met by what.
func TestCheckPre(t *testing.T) {
	for _, c := range []struct {
		what, s, t, plan string
		e                api.Errno
	}{
		{"by what stays", "bb 1", "aa 1 pre=bb; bb 1", "+aa1", api.OK},
		{"by what has come", "", "aa 1 pre=bb; bb 1", "+bb1; +aa1", api.OK},
		{"by what comes along", "", "aa 1 pre=bb; bb 1", "+aa1 +bb1", api.ErrOrdPlan},
		{"by what goes later", "cc 1 provides=bb", "aa 1 pre=bb; bb 1", "+aa1; -cc1; +bb1", api.ErrOrdPlan},
		{"by what goes later, when what meets it is there", "cc 1 provides=bb", "aa 1 pre=bb; bb 1", "+aa1; +bb1; -cc1", api.OK},
		{"by what goes along", "cc 1 provides=bb", "aa 1 pre=bb; bb 1", "-cc1 +aa1 +bb1", api.ErrOrdPlan},
		{"by what is exchanged along", "bb 1", "aa 1 pre=bb; bb 2", "-bb1 +aa1 +bb2", api.ErrOrdPlan},
		{"by what is exchanged ahead", "bb 1", "aa 1 pre=bb; bb 2", "-bb1 +bb2; +aa1", api.OK},
		{"by what is exchanged later", "bb 1", "aa 1 pre=bb; bb 2", "+aa1; -bb1 +bb2", api.OK},
		{"by its own older package", "aa 1", "aa 2 pre=bb; bb 1", "-aa1 +aa2; +bb1", api.ErrOrdPlan},
		{"by its own older package, which provides it", "aa 1 provides=bb", "aa 2 pre=bb provides=bb; bb 1", "-aa1 +aa2; +bb1", api.ErrOrdPlan},
		{"by its own older package, another one being there", "aa 1 provides=bb", "aa 2 pre=bb provides=bb; bb 1", "+bb1; -aa1 +aa2", api.OK},
		{"the second of two clauses", "bb 1", "aa 1 pre=bb pre=cc|dd; bb 1; dd 1", "+aa1; +dd1", api.ErrOrdPlan},
		{"a later alternative", "bb 1; dd 1", "aa 1 pre=bb pre=cc|dd; bb 1; cc 1; dd 1", "+aa1; +cc1", api.OK},
		{"of what comes again", "aa 1 pre=bb; bb 1", "aa 1 pre=bb; bb 1", "-aa1 -bb1; +aa1 +bb1", api.ErrOrdPlan},
		{"of what comes again, behind it", "aa 1 pre=bb; bb 1", "aa 1 pre=bb; bb 1", "-aa1 -bb1; +bb1; +aa1", api.OK},
		{"of what stays, whose satisfier is exchanged", "aa 1 pre=bb; bb 1", "aa 1 pre=bb; bb 2", "-bb1 +bb2", api.OK},
	} {
		w := see(c.s, c.t)
		plan := batches(c.plan)
		if e := order.Check(w.s, w.t, plan); e != c.e || w.check(plan) != c.e {
			t.Errorf("P13.6: %s: Check(%s) = %d, want %d", c.what, c.plan, e, c.e)
		}
	}
}

// calls tells the error of each call; -1, if beside an error something else is not zero.
func calls(w way, names []string, b api.Batch, plan []api.Batch) map[string]api.Errno {
	errors := map[string]api.Errno{}
	note := func(what string, e api.Errno, rest ...any) {
		errors[what] = e
		for _, x := range rest {
			if e != api.OK && !reflect.ValueOf(x).IsZero() && !(reflect.ValueOf(x).Kind() == reflect.Slice && reflect.ValueOf(x).Len() == 0) {
				errors[what] = -1
			}
		}
	}
	changes, e := order.Changes(w.s, w.t)
	note("Changes", e, changes)
	graph, needs, e := order.Graph(w.s, w.t)
	note("Graph", e, graph, needs)
	ends, e := order.Ends(w.s, w.t)
	note("Ends", e, ends)
	is, e := order.Admissible(w.s, w.t, names)
	note("Admissible", e, is)
	kept, e := order.Kept(w.s, w.t)
	note("Kept", e, kept)
	next, more, e := order.Next(w.s, w.t)
	note("Next", e, next, more)
	behind, e := order.Behind(w.s, w.t, b)
	note("Behind", e, behind)
	all, e := order.Plan(w.s, w.t)
	note("Plan", e, all)
	note("Check", order.Check(w.s, w.t, plan))
	displaced, e := order.Displaced(w.s, w.t, plan)
	note("Displaced", e, displaced)
	return errors
}

// P13.1 to P13.6, P13.10: the first three errors, in each call, ahead of all others.
func TestErrors(t *testing.T) {
	const right, unmet = "aa 1; bb 1", "aa 1 depends=zz; bb 1"
	for _, c := range []struct {
		what, s, t string
		e          api.Errno
	}{
		{"a state not in order", "bb 1; aa 1", right, api.ErrOrdSet},
		{"a target not in order", right, "bb 1; aa 1", api.ErrOrdSet},
		{"a state with one package twice", "aa 1; aa 1", right, api.ErrOrdSet},
		{"a target with one package twice", right, "aa 1; aa 1; bb 1", api.ErrOrdSet},
		{"a state with two of one name", "aa 1; aa 2; bb 1", right, api.ErrOrdSet},
		{"a target with two of one name at the end", right, "aa 1; bb 1; bb 2", api.ErrOrdSet},
		{"a state with what is no package", "a 1; bb 1", right, api.ErrOrdSet},
		{"a target with what is no package", right, "aa 1; bb ?", api.ErrOrdSet},
		{"unlike stanzas", "aa 1; bb 1", "aa 1; bb 1 files=f", api.ErrOrdSet},
		{"unlike stanzas, among others", "aa 1 provides=xx; bb 1; cc 1", "aa 2; bb 1 provides=xx; dd 1", api.ErrOrdSet},

		{"a state with a Depends", unmet, right[6:], api.ErrOrdState},
		{"a state with a Pre-Depends", "aa 1 pre=aa", right[6:], api.ErrOrdState},
		{"a state with a conflict", "aa 1 conflicts=bb; bb 1", "bb 1", api.ErrOrdState},
		{"a state with one path in two", "aa 1 files=f; bb 1 files=f", "", api.ErrOrdState},
		{"a target with a Depends", right[6:], unmet, api.ErrOrdTarget},
		{"a target with a Pre-Depends", right[6:], "aa 1 provides=xx pre=xx", api.ErrOrdTarget},
		{"a target with a conflict", "bb 1", "aa 1 conflicts=bb; bb 1", api.ErrOrdTarget},
		{"a target with one path in two", "", "aa 1 files=f; bb 1 files=f", api.ErrOrdTarget},

		{"no sets, and not Valid", "bb 1 depends=zz; aa 1", "bb 1 depends=zz; aa 1", api.ErrOrdSet},
		{"a state that is not Valid, a target that is no set", unmet, "bb 1; aa 1", api.ErrOrdSet},
		{"a state that is no set, a target that is not Valid", "bb 1; aa 1", unmet, api.ErrOrdSet},
		{"both not Valid, with unlike stanzas", unmet, "aa 1 depends=yy; bb 1", api.ErrOrdSet},
		{"both not Valid", unmet, unmet, api.ErrOrdState},
		{"both not Valid, each in its way", unmet, "cc 1 pre=dd", api.ErrOrdState},
	} {
		w := see(c.s, c.t)
		// Names, a batch and a plan that would be refused, too.
		for what, e := range calls(w, []string{"zz", "aa"}, batch("-zz1"), batches("-zz1; .")) {
			if e != c.e {
				t.Errorf("%s: %s: %d, want %d", what, c.what, e, c.e)
			}
		}
	}
}

// P13.1 to P13.6, P13.10: the other errors come behind them, each in its calls alone.
func TestLaterErrors(t *testing.T) {
	for _, c := range []struct {
		what  string
		w     way
		names string
		batch string
		plan  string
		want  map[string]api.Errno
	}{
		{"none", see("aa 1", "bb 1"), "aa", "-aa1", "-aa1; +bb1", nil},
		{"names", see("aa 1", "bb 1"), "bb aa", "-aa1", "-aa1; +bb1", map[string]api.Errno{"Admissible": api.ErrOrdNames}},
		{"a batch", see("aa 1", "bb 1"), "aa", "-bb1", "-aa1; +bb1", map[string]api.Errno{"Behind": api.ErrOrdPlan}},
		{"a plan", see("aa 1", "bb 1"), "aa", "-aa1", "-aa1", map[string]api.Errno{"Check": api.ErrOrdPlan, "Displaced": api.ErrOrdPlan}},
		{"a cycle", see("cc 1", "aa 1 pre=bb; bb 1 depends=aa; cc 1"), "aa", "+aa1", "", map[string]api.Errno{"Next": api.ErrOrdCycle, "Plan": api.ErrOrdCycle, "Check": api.ErrOrdPlan, "Displaced": api.ErrOrdPlan}},
		{"a cycle later on", see("", "aa 1 pre=bb; bb 1 depends=aa; cc 1"), "cc", "+cc1", "", map[string]api.Errno{"Plan": api.ErrOrdCycle, "Check": api.ErrOrdPlan, "Displaced": api.ErrOrdPlan}},
	} {
		for what, e := range calls(c.w, samples.Parts(c.names), batch(c.batch), batches(c.plan)) {
			if e != c.want[what] {
				t.Errorf("%s: %s: %d, want %d", what, c.what, e, c.want[what])
			}
		}
	}
}

// P13.1: of one package both have the same stanza, in all its parts.
func TestUnlikeStanzas(t *testing.T) {
	set := func(change func(p *api.Package)) set {
		p := samples.Full("pp", "1")
		change(&p)
		return append(samples.Packages("bb 1; dd 1; ee 1"), p)
	}
	from := set(func(*api.Package) {})
	if e := order.Check(from, set(func(*api.Package) {}), nil); e != api.OK {
		t.Fatalf("P13.6: alike: %d", e)
	}
	for what, change := range map[string]func(*api.Package){
		"Essential":            func(p *api.Package) { p.Essential = false },
		"Depends, a clause":    func(p *api.Package) { p.Depends = p.Depends[:1] },
		"Depends, an atom":     func(p *api.Package) { p.Depends[0] = p.Depends[0][:1] },
		"Depends, an operator": func(p *api.Package) { p.Depends[0][0].Op = api.OpEqual },
		"Depends, their order": func(p *api.Package) { slices.Reverse(p.Depends) },
		"Pre-Depends":          func(p *api.Package) { p.PreDepends = nil },
		"Pre-Depends, an atom": func(p *api.Package) { p.PreDepends[0][1].Name = "zz" },
		"Conflicts":            func(p *api.Package) { p.Conflicts[0].Version = "3" },
		"Conflicts, fewer":     func(p *api.Package) { p.Conflicts = p.Conflicts[:1] },
		"Provides":             func(p *api.Package) { slices.Reverse(p.Provides) },
		"Files, a path":        func(p *api.Package) { p.Files[0].Path = "a0" },
		"Files, a size":        func(p *api.Package) { p.Files[0].Size++ },
		"Files, a sum":         func(p *api.Package) { p.Files[1].Sum[31]++ },
		"Archive":              func(p *api.Package) { p.Archive = "pool/qq" },
		"Size":                 func(p *api.Package) { p.Size++ },
		"Sum":                  func(p *api.Package) { p.Sum[0]++ },
		"Summary":              func(p *api.Package) { p.Summary = "a thin" },
	} {
		for _, w := range []way{{from, set(change)}, {set(change), from}} {
			for call, e := range calls(w, nil, api.Batch{}, nil) {
				if e != api.ErrOrdSet {
					t.Errorf("%s: unlike in %s: %d", call, what, e)
				}
			}
		}
	}
	// Another version is another package, and nil and empty are one.
	p := samples.Full("pp", "1.0")
	p.Summary = "another thing"
	if got, e := order.Changes(from, append(slices.Clone(from[:3]), p)); e != api.OK || !slices.Equal(got, []string{"pp"}) {
		t.Errorf("P13.1: two versions: %q, %d", got, e)
	}
	bare := api.Package{Name: "aa", Version: "1"}
	empty := bare
	empty.Depends, empty.PreDepends, empty.Conflicts, empty.Provides, empty.Files = []api.Clause{}, []api.Clause{}, []api.Atom{}, []string{}, []api.File{}
	for call, e := range calls(way{[]api.Package{bare}, []api.Package{empty}}, nil, api.Batch{Out: []api.Key{}}, nil) {
		if e != api.OK {
			t.Errorf("%s: nil and empty: %d", call, e)
		}
	}
}
