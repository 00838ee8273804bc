package resolve_test

import (
	"fmt"
	"slices"
	"strings"
	"testing"

	"larder/api"
	"larder/samples"
)

// scene is what the calls are handed.
type scene struct {
	u    []api.Package
	held []api.Held
	r    api.Request
}

// see makes a scene: packages, those of them that are installed, wishes, names that are held; each with `; ` between them.
func see(packages, installed, wishes, holds string) scene {
	s := scene{u: samples.Packages(packages)}
	for _, text := range samples.Parts(installed) {
		name, version, _ := strings.Cut(text, " ")
		s.held = append(s.held, api.Held{Package: s.u[s.place(api.Key{Name: name, Version: version})]})
	}
	s.r.Wishes = samples.Wishes(wishes)
	s.r.Holds = samples.Parts(holds)
	s.r.Budget = 1 << 20
	return s
}

// place tells where a package of the scene stands.
func (s scene) place(k api.Key) int {
	p := slices.IndexFunc(s.u, func(q api.Package) bool { return q.Name == k.Name && q.Version == k.Version })
	if p < 0 {
		panic(k)
	}
	return p
}

func (s scene) String() string { return fmt.Sprintf("u %+v, held %+v, %+v", s.u, s.held, s.r) }

// name tells a package in a word.
func name(k api.Key) string {
	if k == (api.Key{}) {
		return ""
	}
	return k.Name + "-" + k.Version
}

// tell tells rules as `depends aa-1#0 [-1 2]`, `conflict aa-1#0 bb-1 [-1 -2]`, `install #0 [1]`.
func tell(rules []api.Rule) []string {
	kinds := []string{
		api.RuleInstall: "install", api.RuleRemove: "remove", api.RuleHold: "hold", api.RuleName: "name", api.RuleDepends: "depends",
		api.RulePre: "pre", api.RuleConflict: "conflict", api.RulePath: "path", api.RuleUpgrade: "upgrade",
	}
	var texts []string
	for _, r := range rules {
		other := ""
		if r.Other != (api.Key{}) {
			other = " " + name(r.Other)
		}
		texts = append(texts, fmt.Sprintf("%s %s#%d%s %v", kinds[r.Kind], name(r.Who), r.Index, other, r.Lits))
	}
	return texts
}

// calls tells the errors of all calls on a scene, of which none may have another result beside one.
func (s scene) calls(t *testing.T, set []int) map[string]api.Errno {
	t.Helper()
	check := check(s)
	rules, ofRules := rulesOf(s)
	clauses, ofClauses := clausesOf(s)
	prefer, ofPrefer := preferOf(s)
	is, ofMeets := meetsOf(s, set)
	target, steps, ofTarget := targetOf(s)
	if ofRules != api.OK && len(rules) > 0 || ofClauses != api.OK && len(clauses) > 0 || ofPrefer != api.OK && len(prefer) > 0 ||
		ofMeets != api.OK && is || ofTarget != api.OK && (len(target) > 0 || steps != 0) {
		t.Errorf("P10.2 to P10.5: %v: something beside an error", s)
	}
	return map[string]api.Errno{"Check": check, "Rules": ofRules, "Clauses": ofClauses, "Prefer": ofPrefer, "Meets": ofMeets, "Target": ofTarget}
}
