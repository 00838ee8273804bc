package resolve_test

import (
	"fmt"
	"maps"
	"slices"
	"strconv"
	"testing"

	"larder/api"
	"larder/samples"
)

// many makes so many packages in order, of which each is made of its number; numbers have as many digits as one another.
func many(n int, words func(number int) string) []api.Package {
	u := make([]api.Package, n)
	for i := range u {
		u[i] = samples.Package(words(1000000 + i))
	}
	return u
}

// versions makes so many packages of one name.
func versions(n int, name string) []api.Package {
	return many(n, func(number int) string { return name + " " + strconv.Itoa(number) })
}

// names makes so many packages with names of their own, which say something besides.
func names(n int, words string) []api.Package {
	return many(n, func(number int) string { return fmt.Sprint("n", number, " 1 ", words) })
}

// atRules makes a scene of just MaxRules clauses: those of 1448 versions of one name are 948 too few; so many packages lack something. Clauses that stand twice count once.
func atRules(beyond int) scene {
	const of, lacking = 1448, 948
	s := scene{u: append(versions(of, "aa"), names(lacking+beyond, "depends=zz pre=zz depends=yy")...)}
	if of*(of-1)/2+lacking != api.MaxRules {
		panic("other numbers are needed")
	}
	return s
}

// P10.2, P10.5: MaxRules clauses, and one more.
func TestMaxRules(t *testing.T) {
	t.Parallel()
	s := atRules(0)
	last := s.u[len(s.u)-1]
	// These say what stands, too.
	s.r.Wishes = []api.Wish{samples.Wish("remove " + last.Name), samples.Wish("remove " + last.Name + "(<=1)")}
	clauses, e := clausesOf(s)
	if e != api.OK || len(clauses) != api.MaxRules || !slices.Equal(clauses[len(clauses)-1], []int{1 - len(s.u)}) {
		t.Fatalf("P10.2: at the bound: %d clauses, %d", len(clauses), e)
	}
	if set, steps, e := targetOf(s); len(set) != 0 || steps != 0 || e != api.ErrResBudget {
		t.Errorf("P10.5: at the bound, without a budget: %v, %d, %d", set, steps, e)
	}
	for what, beyond := range map[string]func(s *scene){
		"an install":           func(s *scene) { s.r.Wishes = []api.Wish{samples.Wish("install " + last.Name)} },
		"one more of the name": func(s *scene) { s.u = append(versions(1449, "aa"), s.u[1448:]...) },
		"a path": func(s *scene) {
			s.u[0].Files = []api.File{{Path: "f"}}
			s.u[len(s.u)-1].Files = []api.File{{Path: "f"}}
		},
	} {
		s := atRules(0)
		beyond(&s)
		if rules, e := rulesOf(s); e != api.ErrResMany || len(rules) != 0 {
			t.Errorf("P10.2: %s beyond the bound: %d rules, %d", what, len(rules), e)
		}
	}
	want := map[string]api.Errno{"Check": api.OK, "Rules": api.ErrResMany, "Clauses": api.ErrResMany, "Prefer": api.OK, "Meets": api.OK, "Target": api.ErrResMany}
	if got := atRules(1).calls(t, nil); !maps.Equal(got, want) {
		t.Errorf("P10.1 to P10.5: beyond the bound: %v, want %v", got, want)
	}
}

// P10.9: a hold of what is installed may be one clause too many.
func TestQuietMany(t *testing.T) {
	t.Parallel()
	s := atRules(0)
	s.held = []api.Held{{Package: s.u[7]}}
	s.r.Holds = []string{"aa"}
	if is, e := meetsOf(s, []int{7}); !is || e != api.OK {
		t.Errorf("P10.9: Meets = %t, %d", is, e)
	}
	if _, _, e := targetOf(s); e != api.ErrResMany {
		t.Errorf("P10.9: Target = %d", e)
	}
}

// P10.1 to P10.5: a universe at its bound, and one beyond.
func TestMaxUniverse(t *testing.T) {
	t.Parallel()
	s := scene{u: names(api.MaxUniverse+1, "provides=xx"), r: api.Request{Budget: api.MaxBudget}}
	for what, got := range s.calls(t, nil) {
		if got != api.ErrResUniverse {
			t.Errorf("P10.1: one beyond: %s = %d", what, got)
		}
	}
	s.u = s.u[:api.MaxUniverse]
	s.r.Wishes = []api.Wish{samples.Wish("install xx"), samples.Wish("install " + s.u[len(s.u)-1].Name)}
	clauses, e := clausesOf(s)
	if e != api.OK || len(clauses) != 2 || len(clauses[0]) != api.MaxUniverse || !slices.Equal(clauses[1], []int{api.MaxUniverse}) {
		t.Fatalf("P10.2: at the bound: %d clauses, %d", len(clauses), e)
	}
	set, steps, e := targetOf(s)
	if e != api.OK || !slices.Equal(set, []int{api.MaxUniverse - 1}) || steps != 4 {
		t.Errorf("P10.5: at the bound: %v, %d, %d", set, steps, e)
	}
	if is, e := meetsOf(s, set); !is || e != api.OK {
		t.Errorf("P10.7: at the bound: %t, %d", is, e)
	}
}

// P10.2: literals of all places, with either sign, are told apart.
func TestManyLiterals(t *testing.T) {
	t.Parallel()
	s := scene{u: names(api.MaxUniverse, "")}
	for p, q := range s.u {
		kind := api.WishRemove
		if p >= len(s.u)/2 {
			kind = api.WishInstall
		}
		s.r.Wishes = append(s.r.Wishes, atom(kind, q.Name, api.OpAny, ""))
	}
	clauses, e := clausesOf(s)
	if e != api.OK || len(clauses) != len(s.u) {
		t.Errorf("P10.2: %d clauses, %d", len(clauses), e)
	}
	for p, clause := range clauses {
		want := -p - 1
		if p >= len(s.u)/2 {
			want = p + 1
		}
		if !slices.Equal(clause, []int{want}) {
			t.Fatalf("P10.2: clause %d is %v", p, clause)
		}
	}
}

// P10.2, P10.4: of the most packages all exclude one another, or all are wanted by all.
func TestMost(t *testing.T) {
	t.Parallel()
	all := make([]int, api.MaxUniverse)
	for i := range all {
		all[i] = i
	}
	for _, c := range []struct {
		what string
		u    []api.Package
		e    api.Errno
		is   bool
	}{
		{"one name", versions(api.MaxUniverse, "aa"), api.ErrResMany, false},
		{"one path", names(api.MaxUniverse, "files=f"), api.ErrResMany, false},
		{"conflicts", names(api.MaxUniverse, "provides=xx conflicts=xx"), api.ErrResMany, false},
		{"its own Depends", names(api.MaxUniverse, "provides=xx depends=xx"), api.OK, true},
	} {
		s := scene{u: c.u, r: api.Request{Budget: 1}}
		if rules, e := rulesOf(s); e != c.e || len(rules) > 0 {
			t.Errorf("P10.2: %s: %d rules, %d", c.what, len(rules), e)
		}
		if is, e := meetsOf(s, all); is != c.is || e != api.OK {
			t.Errorf("P10.4: %s: Meets of all = %t, %d", c.what, is, e)
		}
	}
	// Half of them depend on what the others provide: more literals than may be, but few questions of a set.
	s := scene{u: append(names(65535, "depends=xx pre=xx|yy"), many(65535, func(number int) string { return fmt.Sprint("p", number, " 1 provides=xx,yy") })...)}
	if is, e := meetsOf(s, all[:131070]); !is || e != api.OK {
		t.Errorf("P10.4: Meets of those that need and those that are needed = %t, %d", is, e)
	}
	if is, e := meetsOf(s, all[:65535]); is || e != api.OK {
		t.Errorf("P10.4: Meets of those that need = %t, %d", is, e)
	}
}

// P10.2: the same wish very many times.
func TestManyWishes(t *testing.T) {
	t.Parallel()
	s := scene{u: names(1000, "provides=xx"), r: api.Request{Budget: api.MaxBudget}}
	for _, p := range s.u {
		s.held = append(s.held, api.Held{Package: p})
	}
	for range 100000 {
		s.r.Wishes = append(s.r.Wishes, samples.Wish("upgrade"), samples.Wish("install xx"), samples.Wish("remove zz"))
	}
	rules, e := rulesOf(s)
	if e != api.OK || len(rules) != 1001 || rules[0].Index != 0 || rules[1000].Index != 1 {
		t.Errorf("P10.2: %d rules, %d", len(rules), e)
	}
	if is, e := meetsOf(s, []int{0}); is || e != api.OK {
		t.Errorf("P10.4: Meets = %t, %d", is, e)
	}
}
