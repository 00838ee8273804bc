package why_test

import (
	"fmt"
	"reflect"
	"slices"
	"strings"
	"testing"

	"larder/api"
	"larder/relation"
	"larder/resolve"
	"larder/samples"
	"larder/solver"
	"larder/why"
)

// scene is what Blame is handed.
type scene struct {
	u    []api.Package
	held []api.Held
	r    api.Request
}

// see makes a scene: packages, those of them that are installed, wishes, names that are held; each with `; ` between them.
func see(packages, installed, wishes, holds string) scene {
	s := scene{u: samples.Packages(packages)}
	for _, text := range samples.Parts(installed) {
		name, version, _ := strings.Cut(text, " ")
		s.held = append(s.held, api.Held{Package: s.u[s.place(api.Key{Name: name, Version: version})]})
	}
	s.r = api.Request{Wishes: samples.Wishes(wishes), Holds: samples.Parts(holds), Budget: 1 << 20}
	return s
}

// place tells where a package of the scene stands.
func (s scene) place(k api.Key) int {
	p := slices.IndexFunc(s.u, func(q api.Package) bool { return q.Name == k.Name && q.Version == k.Version })
	if p < 0 {
		panic(k)
	}
	return p
}

func (s scene) String() string {
	var u []string
	for _, p := range s.u {
		u = append(u, text(p))
	}
	return fmt.Sprintf("u %s; held %v; %+v", strings.Join(u, "; "), set(s.held), s.r)
}

func (s scene) blame() ([]api.Rule, int, api.Errno) { return why.Blame(s.u, s.held, s.r) }

// tellRules tells rules as `depends aa-1#0`, `conflict aa-1#0 bb-1`, `install #0`, with `; ` between them.
func tellRules(rules []api.Rule) string {
	kinds := []string{
		api.RuleInstall: "install", api.RuleRemove: "remove", api.RuleHold: "hold", api.RuleName: "name", api.RuleDepends: "depends",
		api.RulePre: "pre", api.RuleConflict: "conflict", api.RulePath: "path", api.RuleUpgrade: "upgrade",
	}
	var texts []string
	for _, r := range rules {
		text := kinds[r.Kind] + " "
		if r.Who != (api.Key{}) {
			text += r.Who.Name + "-" + r.Who.Version
		}
		text += fmt.Sprintf("#%d", r.Index)
		if r.Other != (api.Key{}) {
			text += " " + r.Other.Name + "-" + r.Other.Version
		}
		texts = append(texts, text)
	}
	return strings.Join(texts, "; ")
}

func literals(rules []api.Rule) [][]int {
	var clauses [][]int
	for _, r := range rules {
		clauses = append(clauses, r.Lits)
	}
	return clauses
}

// solve tells what Solve says of some rules, with the request's budget.
func (s scene) solve(rules []api.Rule) int {
	found, e := solver.Solve(len(s.u), literals(rules), nil, s.r.Budget)
	if e != api.OK {
		panic(e)
	}
	return found.Verdict
}

func drop(rules []api.Rule, i int) []api.Rule { return slices.Delete(slices.Clone(rules), i, i+1) }

// want tells what Blame should answer, by the words of chapters 20 and 9.
func (s scene) want() ([]api.Rule, int, api.Errno) {
	left, e := resolve.Rules(s.u, s.held, s.r)
	if e != api.OK {
		return nil, 0, e
	}
	if verdict := s.solve(left); verdict != api.Unsat {
		return nil, verdict, api.OK
	}
	for fewer := true; fewer; {
		fewer = false
		for i := 0; i < len(left); {
			if s.solve(drop(left, i)) == api.Unsat {
				left, fewer = drop(left, i), true
			} else {
				i++
			}
		}
	}
	return left, api.Unsat, api.OK
}

// has tells whether a set, as bits of places, has a package.
func (s scene) has(set int, k api.Key) bool { return set>>s.place(k)&1 == 1 }

// meets tells whether a package of a set, but one, meets one of some atoms.
func (s scene) meets(set int, but api.Key, atoms ...api.Atom) bool {
	for p := range s.u {
		k := api.Key{Name: s.u[p].Name, Version: s.u[p].Version}
		if _, is := relation.First(atoms, s.u[p]); is && s.has(set, k) && k != but {
			return true
		}
	}
	return false
}

// keeps tells whether a set is as a rule says, in the words of chapter 10.
func (s scene) keeps(set int, r api.Rule) bool {
	switch r.Kind {
	case api.RuleInstall:
		return s.meets(set, api.Key{}, s.r.Wishes[r.Index].Atom)
	case api.RuleUpgrade:
		return s.r.Wishes[r.Index].Kind == api.WishUpgrade && slices.ContainsFunc(s.u, func(p api.Package) bool {
			return p.Name == r.Who.Name && s.has(set, api.Key{Name: p.Name, Version: p.Version})
		})
	case api.RuleRemove:
		a := s.r.Wishes[r.Index].Atom
		return !(s.has(set, r.Who) && a.Name == r.Who.Name && relation.Fits(a, r.Who.Version))
	case api.RuleHold:
		return s.r.Holds[r.Index] == r.Who.Name && s.has(set, r.Who)
	case api.RuleName:
		return !(s.has(set, r.Who) && s.has(set, r.Other) && r.Who.Name == r.Other.Name)
	case api.RuleDepends:
		return !s.has(set, r.Who) || s.meets(set, api.Key{}, s.u[s.place(r.Who)].Depends[r.Index]...)
	case api.RulePre:
		return !s.has(set, r.Who) || s.meets(set, r.Who, s.u[s.place(r.Who)].PreDepends[r.Index]...)
	case api.RuleConflict:
		a := s.u[s.place(r.Who)].Conflicts[r.Index]
		return !(s.has(set, r.Who) && s.has(set, r.Other) && relation.Meets(a, s.u[s.place(r.Other)]))
	case api.RulePath:
		path := s.u[s.place(r.Who)].Files[r.Index].Path
		isIts := func(f api.File) bool { return f.Path == path }
		return !(s.has(set, r.Who) && s.has(set, r.Other) && slices.ContainsFunc(s.u[s.place(r.Other)].Files, isIts))
	}
	panic(r)
}

// hasOneVersion tells whether no two packages of a set have one name.
func (s scene) hasOneVersion(set int) bool {
	for p := range s.u {
		for q := range p {
			if set>>p&1 == 1 && set>>q&1 == 1 && s.u[p].Name == s.u[q].Name {
				return false
			}
		}
	}
	return true
}

// holdUnsat holds what follows of rules that are told.
func (s scene) holdUnsat(t *testing.T, rules []api.Rule) {
	t.Helper()
	for set := range 1 << len(s.u) {
		breaks := func(r api.Rule) bool { return !s.keeps(set, r) }
		if s.hasOneVersion(set) && !slices.ContainsFunc(rules, breaks) {
			t.Errorf("P20.5: %v: the set %b meets all of %s", s, set, tellRules(rules))
		}
	}
	for i := range rules {
		if s.solve(drop(rules, i)) == api.Unsat {
			t.Errorf("P20.5: %v: %s can do without %d", s, tellRules(rules), i)
		}
	}
}

// hold holds Blame against the chapter's words, and tells what it answered.
func (s scene) hold(t *testing.T) ([]api.Rule, int, api.Errno) {
	t.Helper()
	rules, verdict, e := s.blame()
	wantRules, wantVerdict, want := s.want()
	if e != want || verdict != wantVerdict || len(rules) != len(wantRules) {
		t.Errorf("P20.4: %v: %s, %d, %d, want %s, %d, %d", s, tellRules(rules), verdict, e, tellRules(wantRules), wantVerdict, want)
		return rules, verdict, e
	}
	for i, r := range rules {
		if !sameRule(r, wantRules[i]) {
			t.Errorf("P20.4: %v: the rule %d is %+v, want %+v", s, i, r, wantRules[i])
		}
	}
	if verdict == api.Unsat {
		s.holdUnsat(t, rules)
	}
	return rules, verdict, e
}

func sameRule(a, b api.Rule) bool {
	same := slices.Equal(a.Lits, b.Lits)
	a.Lits, b.Lits = nil, nil
	return same && reflect.DeepEqual(a, b)
}

// P20.4, P20.5: requests that can be met and that can't, by each kind of rule.
func TestBlame(t *testing.T) {
	for _, c := range []struct{ what, packages, installed, wishes, holds, want string }{
		{"example 2", "aa 1 depends=bb(>=2); bb 1", "", "install aa", "", "install #0; depends aa-1#0"},
		{"example 2, the second wish", "aa 1 depends=bb(>=2); bb 1", "", "install bb; install aa", "", "install #1; depends aa-1#0"},
		{"nothing is there", "", "", "install aa", "", "install #0"},
		{"nothing is there for the second one", "aa 1", "", "install aa; install bb", "", "install #1"},
		{"nothing is there for two: a clause stands once", "aa 1", "", "install aa; install bb; install aa(>>1)", "", "install #1"},
		{"the second clause", "aa 1 depends=bb depends=bb|cc depends=dd|ee; bb 1; cc 1", "", "install aa", "", "install #0; depends aa-1#2"},
		{"a row of clauses", "aa 1 depends=bb; bb 1 depends=cc; cc 1 depends=dd", "", "install aa", "", "install #0; depends aa-1#0; depends bb-1#0; depends cc-1#0"},
		{"a Pre-Depends that nobody else meets", "aa 1 provides=xx pre=xx", "", "install aa", "", "install #0; pre aa-1#0"},
		{"the second Pre-Depends", "aa 1 pre=bb pre=zz; bb 1", "", "install aa", "", "install #0; pre aa-1#1"},
		{"Conflicts", "aa 1 conflicts=zz,xx; bb 1 provides=xx", "", "install aa; install bb", "", "install #0; install #1; conflict aa-1#1 bb-1"},
		{"Conflicts of the later one", "aa 1; bb 1 conflicts=aa(<<2)", "", "install aa; install bb", "", "install #0; install #1; conflict bb-1#0 aa-1"},
		{"paths", "aa 1 files=f,g,h; bb 1 files=a,g", "", "install bb; install aa", "", "install #0; install #1; path aa-1#1 bb-1"},
		{"names", "aa 1; aa 2", "", "install aa(=1); install aa(=2)", "", "install #0; install #1; name aa-1#0 aa-2"},
		{"a hold and a wish", "aa 1; aa 2", "aa 1", "install aa(>=2)", "zz; aa", "install #0; hold aa-1#1; name aa-1#0 aa-2"},
		{"a hold and a removal", "aa 1", "aa 1", "remove aa", "aa", "remove aa-1#0; hold aa-1#0"},
		{"an upgrade and what has gone", "aa 1 depends=bb; bb 1", "aa 1; bb 1", "upgrade; remove bb", "", "upgrade aa-1#0; remove bb-1#1; depends aa-1#0"},
		{"an upgrade by the second wish", "aa 1 depends=bb; bb 1; bb 2; cc 1", "aa 1; bb 1", "install cc; upgrade; remove bb", "", "upgrade aa-1#1; remove bb-1#2; remove bb-2#2; depends aa-1#0"},
		{"a removal that leaves none", "aa 1 depends=bb; bb 1; bb 2", "aa 1; bb 2", "remove bb", "aa", "remove bb-1#0; remove bb-2#0; hold aa-1#0; depends aa-1#0"},
		{"all versions of a name", "aa 1 depends=bb; aa 2 depends=cc; bb 1 conflicts=dd; dd 1", "", "install aa; install dd", "",
			"install #0; install #1; depends aa-1#0; depends aa-2#0; conflict bb-1#0 dd-1"},
		{"two reasons: the later one is told", "aa 1 depends=zz; bb 1 depends=zz", "", "install aa; install bb", "", "install #1; depends bb-1#0"},
	} {
		s := see(c.packages, c.installed, c.wishes, c.holds)
		rules, verdict, e := s.hold(t)
		if e != api.OK || verdict != api.Unsat || tellRules(rules) != c.want {
			t.Errorf("P20.4: %s: %s, %d, %d, want %s", c.what, tellRules(rules), verdict, e, c.want)
		}
	}
}

// P20.4: requests that can be met tell nothing.
func TestBlameSat(t *testing.T) {
	for _, c := range []struct{ what, packages, installed, wishes, holds string }{
		{"nothing", "", "", "", ""},
		{"nothing is wished", "aa 1 depends=zz; bb 1", "", "", ""},
		{"what can be", "aa 1 depends=bb|zz; bb 1", "", "install aa", ""},
		{"another version", "aa 1; aa 2 depends=zz", "aa 1", "install aa; upgrade", "aa"},
		{"a removal of nothing", "aa 1", "aa 1", "remove bb; remove aa(>>1)", "aa"},
		{"what is installed is not Valid, and may go", "aa 1 depends=zz", "aa 1", "", ""},
	} {
		s := see(c.packages, c.installed, c.wishes, c.holds)
		if rules, verdict, e := s.hold(t); e != api.OK || verdict != api.Sat || len(rules) > 0 {
			t.Errorf("P20.4: %s: %s, %d, %d", c.what, tellRules(rules), verdict, e)
		}
	}
}

// P20.4: rules are told whole, as resolve has them.
func TestBlameWhole(t *testing.T) {
	s := see("aa 1 conflicts=zz,bb; aa 2 pre=zz files=f; aa 3 files=a,f; bb 1; cc 1 files=f", "aa 1", "install bb; upgrade; install cc", "")
	one, two, three := api.Key{Name: "aa", Version: "1"}, api.Key{Name: "aa", Version: "2"}, api.Key{Name: "aa", Version: "3"}
	want := []api.Rule{
		{Kind: api.RuleInstall, Lits: []int{4}},
		{Kind: api.RuleUpgrade, Who: one, Index: 1, Lits: []int{3, 2, 1}},
		{Kind: api.RuleInstall, Index: 2, Lits: []int{5}},
		{Kind: api.RuleConflict, Who: one, Index: 1, Other: api.Key{Name: "bb", Version: "1"}, Lits: []int{-1, -4}},
		{Kind: api.RulePath, Who: two, Other: api.Key{Name: "cc", Version: "1"}, Lits: []int{-2, -5}},
		{Kind: api.RulePath, Who: three, Index: 1, Other: api.Key{Name: "cc", Version: "1"}, Lits: []int{-3, -5}},
	}
	if rules, verdict, e := s.hold(t); e != api.OK || verdict != api.Unsat || !slices.EqualFunc(rules, want, sameRule) {
		t.Errorf("P20.4: %+v, %d, %d, want %+v", rules, verdict, e, want)
	}
	s = see("aa 1; aa 2 depends=bb depends=aa(<<2); aa 3 depends=bb pre=zz|bb(>>1)", "aa 1", "install aa(>>1)", "aa")
	want = []api.Rule{
		{Kind: api.RuleInstall, Lits: []int{3, 2}},
		{Kind: api.RuleDepends, Who: two, Lits: []int{-2}},
		{Kind: api.RuleDepends, Who: three, Lits: []int{-3}},
	}
	if rules, verdict, e := s.hold(t); e != api.OK || verdict != api.Unsat || !slices.EqualFunc(rules, want, sameRule) {
		t.Errorf("P20.4: %+v, %d, %d, want %+v", rules, verdict, e, want)
	}
}
