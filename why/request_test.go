package why_test

import (
	"math"
	"math/rand/v2"
	"slices"
	"strconv"
	"strings"
	"testing"

	"larder/api"
	"larder/resolve"
	"larder/samples"
	"larder/solver"
)

// base is a scene that can't be met, and may be asked.
func base() scene {
	s := see("aa 1 depends=bb files=f; aa 2 depends=zz; bb 1 essential; cc 1 conflicts=bb", "aa 1; bb 1", "install cc; remove aa(>>1); upgrade", "bb")
	s.r.Pins = []api.Pin{{Name: "aa", Op: api.OpEqual, Version: "1", Priority: 7}}
	return s
}

// change is a way to spoil a scene, and what is answered then.
type change struct {
	what  string
	spoil func(s *scene)
	want  api.Errno
}

func wish(kind int, name string, op int, version string) func(s *scene) {
	return func(s *scene) {
		s.r.Wishes = append(s.r.Wishes, api.Wish{Kind: kind, Atom: api.Atom{Name: name, Op: op, Version: version}})
	}
}

func pin(p api.Pin) func(s *scene) { return func(s *scene) { s.r.Pins = append(s.r.Pins, p) } }

func holds(names ...string) func(s *scene) {
	return func(s *scene) { s.r.Holds = append(s.r.Holds, names...) }
}

func held(text string, mark int) func(s *scene) {
	return func(s *scene) {
		s.held = append(s.held, api.Held{Package: samples.Package(text), Mark: mark})
	}
}

func budget(n int) func(s *scene) { return func(s *scene) { s.r.Budget = n } }

// changes tells ways to spoil a scene, in the order in which resolve's Check asks for them.
func changes() []change {
	return []change{
		{"a universe out of order", func(s *scene) { s.u[0], s.u[3] = s.u[3], s.u[0] }, api.ErrResUniverse},
		{"a package without a version", func(s *scene) { s.u[3].Version = "" }, api.ErrResUniverse},
		{"held twice", held("bb 1 essential", 0), api.ErrResHeld},
		{"held, and not of the universe", held("dd 1", 0), api.ErrResHeld},
		{"another stanza", held("cc 1", 0), api.ErrResHeld},
		{"a mark that is none", held("cc 1 conflicts=bb", 2), api.ErrResHeld},
		{"a wish's version", wish(api.WishInstall, "zz", api.OpLess, ""), api.ErrResVersion},
		{"a wish's name", wish(api.WishRemove, "Z", 0, ""), api.ErrResName},
		{"a wish's kind", wish(3, "aa", 0, ""), api.ErrArg},
		{"a wish's operator", wish(api.WishInstall, "aa", 6, "1"), api.ErrArg},
		{"an upgrade with a name", wish(api.WishUpgrade, "aa", 0, ""), api.ErrArg},
		{"a pin's name", pin(api.Pin{Name: "A"}), api.ErrResName},
		{"a pin's priority", pin(api.Pin{Name: "aa", Priority: 1 << 40}), api.ErrArg},
		{"a pin's version", pin(api.Pin{Name: "*", Version: "1"}), api.ErrResVersion},
		{"a hold", holds("a"), api.ErrResName},
		{"a budget below", budget(-1), api.ErrArg},
		{"a budget above", budget(api.MaxBudget + 1), api.ErrArg},
		{"a wish and a removal", wish(api.WishInstall, "aa", 0, ""), api.ErrResBoth},
		{"an Essential package", wish(api.WishRemove, "bb", 0, ""), api.ErrResEssential},
		{"holds", holds(slices.Repeat([]string{"zz"}, api.MaxClauses)...), api.ErrResMany},
		{"pins", func(s *scene) { s.r.Pins = slices.Repeat(s.r.Pins, api.MaxClauses+1) }, api.ErrResMany},
	}
}

// P20.4: every error of resolve's Check; where two hold, the first one.
func TestBlameErrors(t *testing.T) {
	if rules, verdict, e := base().hold(t); e != api.OK || verdict != api.Unsat || tellRules(rules) != "install #0; upgrade bb-1#2; conflict cc-1#0 bb-1" {
		t.Errorf("P20.4: %s, %d, %d", tellRules(rules), verdict, e)
	}
	for i, first := range changes() {
		for _, second := range changes()[i:] {
			s := base()
			first.spoil(&s)
			if first.what != second.what {
				second.spoil(&s)
			}
			if want := resolve.Check(s.u, s.held, s.r); want == api.OK {
				t.Errorf("%s, %s: the scene is no good", first.what, second.what)
			}
			rules, verdict, e := s.hold(t)
			if e != first.want || len(rules) > 0 || verdict != 0 {
				t.Errorf("P20.4: %s, %s: %s, %d, %d, want %d", first.what, second.what, tellRules(rules), verdict, e, first.want)
			}
		}
	}
}

// P20.4: at the limits, which are no errors.
func TestBlameBounds(t *testing.T) {
	for _, c := range []struct {
		what  string
		spoil func(s *scene)
		want  int
	}{
		{"the most holds", holds(slices.Repeat([]string{"zz"}, api.MaxClauses-1)...), api.Unsat},
		{"the most pins", func(s *scene) { s.r.Pins = slices.Repeat(s.r.Pins, api.MaxClauses) }, api.Unsat},
		{"the most budget", budget(api.MaxBudget), api.Unsat},
		{"no budget", budget(0), api.Spent},
		{"nothing at all", func(s *scene) { *s = scene{} }, api.Sat},
	} {
		s := base()
		c.spoil(&s)
		if _, verdict, e := s.hold(t); e != api.OK || verdict != c.want {
			t.Errorf("P20.4: %s: %d, %d, want %d", c.what, verdict, e, c.want)
		}
	}
	for _, n := range []int{math.MinInt, -1, api.MaxBudget + 1, math.MaxInt} {
		s := base()
		s.r.Budget = n
		if rules, verdict, e := s.blame(); e != api.ErrArg || verdict != 0 || len(rules) > 0 {
			t.Errorf("P20.4: a budget of %d: %s, %d, %d", n, tellRules(rules), verdict, e)
		}
	}
}

// steps tells how many looks Solve takes at the clauses of a scene, with no preference.
func (s scene) steps() int {
	clauses, _ := resolve.Clauses(s.u, s.held, s.r)
	found, _ := solver.Solve(len(s.u), clauses, nil, api.MaxBudget)
	return found.Steps
}

// P20.4: all budgets up to what is enough: below it nothing and Spent; at it the verdict.
func TestBlameBudgets(t *testing.T) {
	for _, s := range []scene{
		base(),
		see("aa 1 depends=bb(>=2); bb 1", "", "install aa", ""),
		see("aa 1 depends=bb|cc; bb 1 conflicts=aa; cc 1 conflicts=aa; dd 1 depends=aa", "", "install dd; install aa", ""),
		see("aa 1 depends=bb|cc; bb 1; cc 1", "", "install aa", ""),
		see("aa 1; aa 2 depends=bb; bb 1", "aa 1", "upgrade; install bb", ""),
	} {
		enough := s.steps()
		s.r.Budget = enough
		_, want, _ := s.hold(t)
		if want == api.Spent || enough < 2 {
			t.Errorf("P20.4: %v: with %d looks Spent", s, enough)
		}
		for n := range enough + 20 {
			s.r.Budget = n
			rules, verdict, e := s.hold(t)
			if n < enough && (verdict != api.Spent || len(rules) > 0) || n >= enough && verdict != want || e != api.OK {
				t.Errorf("P20.4: %v: %s, %d, %d; %d looks are enough", s, tellRules(rules), verdict, e, enough)
			}
		}
	}
}

// P20.4, P20.5: which rules are told hangs on the budget: what needs too many looks is not found out.
func TestBlameFewLooks(t *testing.T) {
	s := see("aa 1 depends=zz; bb 1 depends=aa", "", "install yy; install aa; install bb", "")
	for _, c := range []struct {
		budget int
		want   string
	}{{1, "install #0"}, {6, "install #0"}, {1000, "install #2; depends aa-1#0; depends bb-1#0"}} {
		s.r.Budget = c.budget
		if rules, verdict, e := s.hold(t); e != api.OK || verdict != api.Unsat || tellRules(rules) != c.want {
			t.Errorf("P20.4: %d looks: %s, %d, %d, want %s", c.budget, tellRules(rules), verdict, e, c.want)
		}
	}
}

// versions tells a universe of so many versions of one name.
func versions(n int) []api.Package {
	list := make([]api.Package, n)
	for i := range list {
		list[i] = api.Package{Name: "pp", Version: strconv.Itoa(10000 + i)}
	}
	return list
}

// P20.4: clauses at their limit, and one beyond.
func TestBlameMany(t *testing.T) {
	t.Parallel()
	// Each two versions have a clause, and each package behind them has one.
	const pairs, more = 1448 * 1447 / 2, api.MaxRules - 1448*1447/2
	s := scene{u: append(samples.Packages("oo 1"), versions(1448)...), r: api.Request{Budget: api.MaxRules}}
	for i := range more {
		s.u = append(s.u, api.Package{Name: "qq" + strconv.Itoa(1000+i), Version: "1", Depends: []api.Clause{{{Name: "oo"}}}})
	}
	if rules, e := resolve.Rules(s.u, s.held, s.r); e != api.OK || len(rules) != pairs+more {
		t.Fatalf("the scene is no good: %d rules, %d", len(rules), e)
	}
	if rules, verdict, e := s.blame(); e != api.OK || verdict != api.Sat || len(rules) > 0 {
		t.Errorf("P20.4: %d rules, %d, %d", len(rules), verdict, e)
	}
	s.r.Budget = api.MaxRules - 1
	if rules, verdict, e := s.blame(); e != api.OK || verdict != api.Spent || len(rules) > 0 {
		t.Errorf("P20.4: %d rules, %d, %d", len(rules), verdict, e)
	}
	s.r.Wishes = samples.Wishes("install pp")
	if rules, verdict, e := s.blame(); e != api.ErrResMany || verdict != 0 || len(rules) > 0 {
		t.Errorf("P20.4: %d rules, %d, %d", len(rules), verdict, e)
	}
}

// P20.4, P20.5: all choices of three packages, two of one name, each of some kinds; with some requests.
func TestBlameSmall(t *testing.T) {
	t.Parallel()
	kinds := []string{"", "depends=bb", "depends=aa(>=2)", "depends=xx|bb", "pre=xx", "pre=aa", "conflicts=bb", "conflicts=aa(<<2),xx", "provides=xx", "files=f", "provides=xx files=f,g pre=bb|xx", "depends=zz"}
	requests := []struct{ installed, wishes, holds string }{
		{"", "install aa; install bb", ""},
		{"aa 1; bb 1", "upgrade", ""},
		{"aa 1", "install xx; install bb", "aa"},
		{"aa 2; bb 1", "upgrade; install aa(<=1)", "bb; bb; zz"},
		{"bb 1; aa 1", "remove aa(>>1); upgrade", ""},
		{"aa 1; bb 1", "upgrade; remove bb", "aa"},
	}
	verdicts, told := map[int]int{}, map[int]int{}
	for _, first := range kinds {
		for _, second := range kinds {
			for _, third := range kinds {
				for _, r := range requests {
					rules, verdict, _ := see("aa 1 "+first+"; aa 2 "+second+"; bb 1 "+third, r.installed, r.wishes, r.holds).hold(t)
					verdicts[verdict]++
					for _, rule := range rules {
						told[rule.Kind]++
					}
				}
			}
		}
	}
	if min(verdicts[api.Sat], verdicts[api.Unsat]) < 1000 {
		t.Errorf("the scenes are no good: verdicts %v", verdicts)
	}
	for kind := api.RuleInstall; kind <= api.RuleUpgrade; kind++ {
		if told[kind] < 20 {
			t.Errorf("the scenes are no good: rules %v", told)
		}
	}
}

// scene makes a universe of a few names with a request.
func (m mixer) scene() scene {
	var packages, inside, wishes, held []string
	for _, name := range []string{"aa", "bb", "cc", "dd"} {
		var list []string
		for _, version := range []string{"1", "1.0", "2"} {
			if m.IntN(2) == 0 {
				words := strings.Fields(m.words(name, 2))
				list = append(list, version)
				packages = append(packages, strings.Join(append([]string{name, version}, words[2:]...), " ")+pick(m, "", "", " files=f", " files=e,f"))
			}
		}
		if len(list) > 0 && m.IntN(2) == 0 {
			inside = append(inside, name+" "+pick(m, list...))
		}
		if m.IntN(4) == 0 {
			held = append(held, name)
		}
	}
	for range 1 + m.IntN(3) {
		wishes = append(wishes, pick(m, "upgrade", "remove "+m.atom(), "install "+m.atom(), "install "+m.atom()))
	}
	return see(strings.Join(packages, "; "), strings.Join(inside, "; "), strings.Join(wishes, "; "), strings.Join(held, "; "))
}

// P20.4, P20.5: mixed universes and requests, with budgets that are enough and others.
func TestBlameMixed(t *testing.T) {
	t.Parallel()
	m := mixer{rand.New(rand.NewPCG(20, 3))}
	verdicts, long := map[int]int{}, 0
	for i := range 3000 {
		s := m.scene()
		if i%3 == 0 {
			s.r.Budget = m.IntN(200)
		}
		rules, verdict, e := s.hold(t)
		if e != api.OK {
			verdict = -int(e)
		}
		verdicts[verdict]++
		if len(rules) > 3 {
			long++
		}
	}
	if verdicts[api.Sat] < 300 || verdicts[api.Unsat] < 300 || verdicts[api.Spent] < 100 || verdicts[-int(api.ErrResBoth)] < 50 || long < 100 {
		t.Errorf("the scenes are no good: %v, %d with more than three rules", verdicts, long)
	}
}
