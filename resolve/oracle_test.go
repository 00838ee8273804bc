package resolve_test

import (
	"slices"
	"sort"
	"testing"

	"larder/api"
	"larder/debver"
	"larder/policy"
	"larder/resolve"
	"larder/samples"
	"larder/solver"
)

// The calls, on a scene.

func check(s scene) api.Errno { return resolve.Check(s.u, s.held, s.r) }

func rulesOf(s scene) ([]api.Rule, api.Errno) { return resolve.Rules(s.u, s.held, s.r) }

func clausesOf(s scene) ([][]int, api.Errno) { return resolve.Clauses(s.u, s.held, s.r) }

func preferOf(s scene) ([]int, api.Errno) { return resolve.Prefer(s.u, s.held, s.r) }

func meetsOf(s scene, set []int) (bool, api.Errno) { return resolve.Meets(s.u, s.held, s.r, set) }

func targetOf(s scene) ([]int, int, api.Errno) { return resolve.Target(s.u, s.held, s.r) }

// The document's words, said of a scene.

func fits(a api.Atom, version string) bool {
	if a.Op == api.OpAny {
		return true
	}
	d := samples.Must(debver.Compare(version, a.Version))
	return [...]bool{api.OpLess: d < 0, api.OpAtMost: d <= 0, api.OpEqual: d == 0, api.OpAtLeast: d >= 0, api.OpMore: d > 0}[a.Op]
}

func hasName(a api.Atom, p api.Package) bool { return a.Name == p.Name && fits(a, p.Version) }

func provides(a api.Atom, p api.Package) bool {
	return a.Op == api.OpAny && slices.Contains(p.Provides, a.Name)
}

func satisfies(a api.Atom, p api.Package) bool { return hasName(a, p) || provides(a, p) }

func hasPath(p api.Package, path string) bool {
	return slices.ContainsFunc(p.Files, func(f api.File) bool { return f.Path == path })
}

func key(p api.Package) api.Key { return api.Key{Name: p.Name, Version: p.Version} }

func (s scene) liked() *policy.Policy {
	return samples.Must(policy.New(s.u, s.held, s.r.Pins, s.r.Holds))
}

// installed tells the places of what is held, rising.
func (s scene) installed() []int {
	var places []int
	for _, h := range s.held {
		places = append(places, s.place(key(h.Package)))
	}
	sort.Ints(places)
	return places
}

// removed tells whether a WishRemove names a name.
func (s scene) removed(name string) bool {
	return slices.ContainsFunc(s.r.Wishes, func(w api.Wish) bool { return w.Kind == api.WishRemove && w.Atom.Name == name })
}

func (s scene) upgrades() bool {
	return slices.ContainsFunc(s.r.Wishes, func(w api.Wish) bool { return w.Kind == api.WishUpgrade })
}

// satisfiers puts those that meet a clause in order: by the atom, by whether it is their name, by the universe's order.
func (s scene) satisfiers(c api.Clause) []int {
	all := s.liked().All()
	ranks := map[int][]int{}
	for p, q := range s.u {
		at := slices.Index(all, key(q))
		for i, a := range c {
			var rank []int
			switch {
			case hasName(a, q):
				rank = []int{i, 0, at}
			case provides(a, q):
				rank = []int{i, 1, at}
			}
			if old, ok := ranks[p]; rank != nil && (!ok || slices.Compare(rank, old) < 0) {
				ranks[p] = rank
			}
		}
	}
	var places []int
	for p := range ranks {
		places = append(places, p)
	}
	slices.SortFunc(places, func(a, b int) int { return slices.Compare(ranks[a], ranks[b]) })
	return places
}

func plus(places []int) []int {
	literals := []int{}
	for _, p := range places {
		literals = append(literals, p+1)
	}
	return literals
}

// rules tells all rules, of which none is left out that has stood.
func (s scene) rules() []api.Rule {
	var all []api.Rule
	for i, w := range s.r.Wishes {
		all = append(all, s.wishRules(i, w)...)
	}
	for i, name := range s.r.Holds {
		for _, p := range s.installed() {
			if s.u[p].Name == name {
				all = append(all, api.Rule{Kind: api.RuleHold, Who: key(s.u[p]), Index: i, Lits: []int{p + 1}})
			}
		}
	}
	for p, a := range s.u {
		for q, b := range s.u {
			if p < q && a.Name == b.Name {
				all = append(all, api.Rule{Kind: api.RuleName, Who: key(a), Other: key(b), Lits: []int{-p - 1, -q - 1}})
			}
		}
	}
	for p := range s.u {
		all = append(all, s.needRules(p)...)
		all = append(all, s.pairRules(p)...)
	}
	return all
}

func (s scene) wishRules(i int, w api.Wish) []api.Rule {
	var list []api.Rule
	switch w.Kind {
	case api.WishInstall:
		list = append(list, api.Rule{Kind: api.RuleInstall, Index: i, Lits: plus(s.satisfiers(api.Clause{w.Atom}))})
	case api.WishRemove:
		for p, q := range s.u {
			if hasName(w.Atom, q) {
				list = append(list, api.Rule{Kind: api.RuleRemove, Who: key(q), Index: i, Lits: []int{-p - 1}})
			}
		}
	case api.WishUpgrade:
		for _, p := range s.installed() {
			if s.removed(s.u[p].Name) {
				continue
			}
			rule := api.Rule{Kind: api.RuleUpgrade, Who: key(s.u[p]), Index: i}
			for _, k := range s.liked().Ranked(s.u[p].Name) {
				rule.Lits = append(rule.Lits, s.place(k)+1)
			}
			list = append(list, rule)
		}
	}
	return list
}

func (s scene) needRules(p int) []api.Rule {
	var list []api.Rule
	who := key(s.u[p])
	for i, c := range s.u[p].Depends {
		if places := s.satisfiers(c); !slices.Contains(places, p) {
			list = append(list, api.Rule{Kind: api.RuleDepends, Who: who, Index: i, Lits: append([]int{-p - 1}, plus(places)...)})
		}
	}
	for i, c := range s.u[p].PreDepends {
		others := slices.DeleteFunc(s.satisfiers(c), func(q int) bool { return q == p })
		list = append(list, api.Rule{Kind: api.RulePre, Who: who, Index: i, Lits: append([]int{-p - 1}, plus(others)...)})
	}
	return list
}

func (s scene) pairRules(p int) []api.Rule {
	var list []api.Rule
	who := key(s.u[p])
	for q, other := range s.u {
		i := slices.IndexFunc(s.u[p].Conflicts, func(a api.Atom) bool { return satisfies(a, other) })
		if i >= 0 && q != p {
			list = append(list, api.Rule{Kind: api.RuleConflict, Who: who, Index: i, Other: key(other), Lits: []int{-min(p, q) - 1, -max(p, q) - 1}})
		}
	}
	for q := p + 1; q < len(s.u); q++ {
		if i := slices.IndexFunc(s.u[p].Files, func(f api.File) bool { return hasPath(s.u[q], f.Path) }); i >= 0 {
			list = append(list, api.Rule{Kind: api.RulePath, Who: who, Index: i, Other: key(s.u[q]), Lits: []int{-p - 1, -q - 1}})
		}
	}
	return list
}

// first leaves out each rule whose literals have stood.
func first(rules []api.Rule) []api.Rule {
	var kept []api.Rule
	for _, r := range rules {
		if !slices.ContainsFunc(kept, func(k api.Rule) bool { return slices.Equal(k.Lits, r.Lits) }) {
			kept = append(kept, r)
		}
	}
	return kept
}

// prefer tells what is tried first.
func (s scene) prefer() []int {
	var list []int
	for _, essential := range []bool{true, false} {
		for _, p := range s.installed() {
			if s.u[p].Essential != essential {
				continue
			}
			name := s.u[p].Name
			best, _ := s.liked().Candidate(name)
			if s.upgrades() && !slices.Contains(s.r.Holds, name) && samples.Must(debver.Compare(best.Version, s.u[p].Version)) > 0 {
				list = append(list, s.place(best)+1)
			}
			list = append(list, p+1)
		}
	}
	return list
}

// meets tells whether a set is what is asked.
func (s scene) meets(set []int) bool {
	some := func(right func(p int) bool) bool { return slices.ContainsFunc(set, right) }
	for _, p := range set {
		for _, c := range s.u[p].Depends {
			if !some(func(q int) bool { return satisfiesOne(c, s.u[q]) }) {
				return false
			}
		}
		for _, c := range s.u[p].PreDepends {
			if !some(func(q int) bool { return q != p && satisfiesOne(c, s.u[q]) }) {
				return false
			}
		}
		for _, q := range set {
			if p != q && excludes(s.u[p], s.u[q]) {
				return false
			}
		}
	}
	return s.hasAsked(some)
}

func satisfiesOne(c api.Clause, p api.Package) bool {
	return slices.ContainsFunc(c, func(a api.Atom) bool { return satisfies(a, p) })
}

// excludes tells whether two packages may not be together, by what the first one says.
func excludes(p, q api.Package) bool {
	return p.Name == q.Name || satisfiesOne(p.Conflicts, q) || slices.ContainsFunc(p.Files, func(f api.File) bool { return hasPath(q, f.Path) })
}

// hasAsked tells whether a set of which one is asked whether some package is so has what the wishes and holds ask.
func (s scene) hasAsked(some func(right func(p int) bool) bool) bool {
	for _, w := range s.r.Wishes {
		if w.Kind == api.WishInstall && !some(func(p int) bool { return satisfies(w.Atom, s.u[p]) }) {
			return false
		}
		if w.Kind == api.WishRemove && some(func(p int) bool { return hasName(w.Atom, s.u[p]) }) {
			return false
		}
	}
	for _, i := range s.installed() {
		name := s.u[i].Name
		if s.upgrades() && !s.removed(name) && !some(func(p int) bool { return s.u[p].Name == name }) {
			return false
		}
		if slices.Contains(s.r.Holds, name) && !some(func(p int) bool { return p == i }) {
			return false
		}
	}
	return true
}

// refused tells why wishes may not be that are right one by one.
func (s scene) refused() api.Errno {
	for _, a := range s.r.Wishes {
		for _, b := range s.r.Wishes {
			if a.Kind == api.WishInstall && b.Kind == api.WishRemove && a.Atom.Name == b.Atom.Name {
				return api.ErrResBoth
			}
		}
	}
	for _, w := range s.r.Wishes {
		for _, h := range s.held {
			if w.Kind == api.WishRemove && h.Essential && hasName(w.Atom, h.Package) {
				return api.ErrResEssential
			}
		}
	}
	return api.OK
}

// sets tells all sets of places.
func (s scene) sets() [][]int {
	var all [][]int
	for bits := range 1 << len(s.u) {
		var set []int
		for p := range s.u {
			if bits>>p&1 == 1 {
				set = append(set, p)
			}
		}
		all = append(all, set)
	}
	return all
}

func sameRules(a, b []api.Rule) bool {
	return slices.EqualFunc(a, b, func(x, y api.Rule) bool {
		return x.Kind == y.Kind && x.Who == y.Who && x.Index == y.Index && x.Other == y.Other && slices.Equal(x.Lits, y.Lits)
	})
}

// seen is what a scene came to, for the tests that count.
type seen struct {
	e       api.Errno
	left    int  // how many clauses were left out
	quiet   bool // P10.9 speaks of it
	changed bool // the target is not what is held
}

// hold holds all that is promised against the document's words.
func (s scene) hold(t *testing.T) seen {
	t.Helper()
	if e := s.refused(); e != api.OK {
		for what, got := range s.calls(t, nil) {
			if got != e {
				t.Fatalf("P10.1 to P10.5: %v: %s = %d, want %d", s, what, got, e)
			}
		}
		return seen{e: e}
	}
	if e := check(s); e != api.OK {
		t.Fatalf("P10.1: %v: Check = %d", s, e)
	}
	all := s.rules()
	want := first(all)
	rules, e := rulesOf(s)
	if e != api.OK || !sameRules(rules, want) {
		t.Fatalf("P10.2: %v:\nRules = %q, %d,\nwant %q", s, tell(rules), e, tell(want))
	}
	var literals [][]int
	for _, r := range want {
		literals = append(literals, r.Lits)
	}
	clauses, e := clausesOf(s)
	if e != api.OK || !slices.EqualFunc(clauses, literals, slices.Equal) {
		t.Fatalf("P10.2: %v: Clauses = %v, %d, want %v", s, clauses, e, literals)
	}
	prefer, e := preferOf(s)
	if e != api.OK || !slices.Equal(prefer, s.prefer()) {
		t.Fatalf("P10.3: %v: Prefer = %v, %d, want %v", s, prefer, e, s.prefer())
	}
	possible := s.holdSets(t, clauses)
	is := s.holdTarget(t, clauses, possible)
	is.left = len(all) - len(want)
	return is
}

// holdSets holds P10.4 and P10.6 of all sets, and tells whether one is what is asked.
func (s scene) holdSets(t *testing.T, clauses [][]int) bool {
	t.Helper()
	possible := false
	for _, set := range s.sets() {
		want := s.meets(set)
		possible = possible || want
		if is, e := meetsOf(s, set); is != want || e != api.OK {
			t.Fatalf("P10.4: %v: Meets(%v) = %t, %d", s, set, is, e)
		}
		values := make([]bool, len(s.u))
		for _, p := range set {
			values[p] = true
		}
		if broken := samples.Must(solver.Holds(len(s.u), clauses, values)); want != (broken < 0) {
			t.Fatalf("P10.6: %v: %v: is it what is asked: %t; the first broken clause is %d", s, set, want, broken)
		}
	}
	return possible
}

// holdTarget holds P10.5 and P10.7 to P10.9 with budgets of all kinds.
func (s scene) holdTarget(t *testing.T, clauses [][]int, possible bool) seen {
	t.Helper()
	found := samples.Must(solver.Solve(len(s.u), clauses, s.prefer(), api.MaxBudget))
	enough := 1 << (len(s.u) + 1) * len(clauses)
	var is seen
	for _, s.r.Budget = range []int{0, found.Steps - 1, found.Steps, enough, api.MaxBudget} {
		if s.r.Budget < 0 {
			continue
		}
		set, steps, e := targetOf(s)
		switch {
		case s.r.Budget < found.Steps:
			if e != api.ErrResBudget || len(set) > 0 || steps != 0 {
				t.Fatalf("P10.5: %v: Target = %v, %d, %d, where %d looks are needed", s, set, steps, e, found.Steps)
			}
			continue
		case !possible:
			if e != api.ErrResUnsat || len(set) > 0 || steps != 0 {
				t.Fatalf("P10.7: %v: Target = %v, %d, %d, where no set is what is asked", s, set, steps, e)
			}
		case e != api.OK || steps != found.Steps || !s.meets(set):
			t.Fatalf("P10.5, P10.7, P10.8: %v: Target = %v, %d, %d, want %d looks", s, set, steps, e, found.Steps)
		}
		for p, value := range found.Values {
			if value != slices.Contains(set, p) {
				t.Fatalf("P10.5: %v: Target = %v, want the true ones of %v", s, set, found.Values)
			}
		}
		is.e, is.changed = e, !slices.Equal(set, s.installed())
	}
	is.quiet = !s.upgrades() && s.meets(s.installed())
	if is.quiet && (is.e != api.OK || is.changed) {
		t.Fatalf("P10.9: %v: not what is held, %d", s, is.e)
	}
	return is
}
