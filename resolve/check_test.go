package resolve_test

import (
	"slices"
	"strings"
	"testing"

	"larder/api"
	"larder/samples"
)

// base is a scene that may be.
func base() scene {
	s := see("aa 1 depends=bb files=f; aa 2; bb 1 essential; cc 1", "aa 1; bb 1", "install cc; remove aa(>>1); upgrade", "bb")
	s.r.Pins = []api.Pin{{Name: "aa", Op: api.OpEqual, Version: "1", Priority: 7}}
	return s
}

// wrong is a way to spoil a scene, and what is answered then.
type wrong struct {
	what  string
	spoil func(s *scene)
	want  api.Errno
}

// wish1 and its like put one more of a kind behind those of the scene.
func wish1(w api.Wish) func(s *scene) {
	return func(s *scene) { s.r.Wishes = append(s.r.Wishes, w) }
}

func pin1(p api.Pin) func(s *scene) { return func(s *scene) { s.r.Pins = append(s.r.Pins, p) } }

func hold1(name string) func(s *scene) {
	return func(s *scene) { s.r.Holds = append(s.r.Holds, name) }
}

func held1(h api.Held) func(s *scene) { return func(s *scene) { s.held = append(s.held, h) } }

func budget(n int) func(s *scene) { return func(s *scene) { s.r.Budget = n } }

func atom(kind int, name string, op int, version string) api.Wish {
	return api.Wish{Kind: kind, Atom: api.Atom{Name: name, Op: op, Version: version}}
}

// P10.1: each error alone, at its bound.
func TestCheckAlone(t *testing.T) {
	long := strings.Repeat("n", api.MaxName)
	longVersion := strings.Repeat("1", api.MaxVersion)
	for _, c := range []wrong{
		{"nothing", func(s *scene) {}, api.OK},
		{"no packages and nothing else", func(s *scene) { *s = scene{} }, api.OK},
		{"no packages", func(s *scene) { s.u = nil }, api.ErrResHeld},
		{"not in order", func(s *scene) { s.u[0], s.u[1] = s.u[1], s.u[0] }, api.ErrResUniverse},
		{"twice", func(s *scene) { s.u[1] = s.u[0] }, api.ErrResUniverse},
		{"a package that may not be", func(s *scene) { s.u[3].Summary = "\n" }, api.ErrResUniverse},

		{"held twice", held1(api.Held{Package: samples.Package("bb 1 essential")}), api.ErrResHeld},
		{"two of one name", held1(api.Held{Package: samples.Package("aa 2")}), api.ErrResHeld},
		{"another version", held1(api.Held{Package: samples.Package("cc 1.0")}), api.ErrResHeld},
		{"another name", held1(api.Held{Package: samples.Package("dd 1")}), api.ErrResHeld},
		{"no package", held1(api.Held{}), api.ErrResHeld},
		{"one more", held1(api.Held{Package: samples.Package("cc 1"), Mark: api.MarkAuto}), api.OK},
		{"a mark of 2", held1(api.Held{Package: samples.Package("cc 1"), Mark: 2}), api.ErrResHeld},
		{"a mark of -1", held1(api.Held{Package: samples.Package("cc 1"), Mark: -1}), api.ErrResHeld},

		{"a kind of 3", wish1(api.Wish{Kind: 3}), api.ErrArg},
		{"a kind of -1", wish1(atom(-1, "aa", 0, "")), api.ErrArg},
		{"a kind of 3 with what is wrong in it", wish1(atom(3, "A", 0, "?")), api.ErrArg},
		{"an upgrade with a name", wish1(atom(api.WishUpgrade, "aa", 0, "")), api.ErrArg},
		{"an upgrade with an operator", wish1(atom(api.WishUpgrade, "", api.OpMore, "")), api.ErrArg},
		{"an upgrade with a version", wish1(atom(api.WishUpgrade, "", 0, "1")), api.ErrArg},
		{"an operator of 6", wish1(atom(api.WishInstall, "A", 6, "?")), api.ErrArg},
		{"an operator of -1", wish1(atom(api.WishRemove, "zz", -1, "1")), api.ErrArg},
		{"no name", wish1(atom(api.WishInstall, "", 0, "")), api.ErrResName},
		{"a short name", wish1(atom(api.WishRemove, "a", 0, "")), api.ErrResName},
		{"a name and a version", wish1(atom(api.WishInstall, "A", 0, "?")), api.ErrResName},
		{"all names", wish1(atom(api.WishInstall, "*", 0, "")), api.ErrResName},
		{"a long name", wish1(atom(api.WishInstall, long, 0, "")), api.OK},
		{"a longer one", wish1(atom(api.WishInstall, long+"n", 0, "")), api.ErrResName},
		{"a version without an operator", wish1(atom(api.WishInstall, "zz", 0, "1")), api.ErrResVersion},
		{"an operator without a version", wish1(atom(api.WishRemove, "zz", api.OpEqual, "")), api.ErrResVersion},
		{"no version", wish1(atom(api.WishRemove, "zz", api.OpEqual, "x")), api.ErrResVersion},
		{"a long version", wish1(atom(api.WishInstall, "zz", api.OpEqual, longVersion)), api.OK},
		{"a longer one", wish1(atom(api.WishInstall, "zz", api.OpEqual, longVersion+"1")), api.ErrResVersion},

		{"a pin's operator of 6", pin1(api.Pin{Name: "A", Op: 6, Version: "?"}), api.ErrArg},
		{"a pin's operator of -1", pin1(api.Pin{Name: "*", Op: -1}), api.ErrArg},
		{"a pin's priority", pin1(api.Pin{Name: "", Op: 1, Priority: 10001}), api.ErrArg},
		{"a pin's priority below", pin1(api.Pin{Name: "*", Priority: -10001}), api.ErrArg},
		{"the most", pin1(api.Pin{Name: "*", Priority: 10000}), api.OK},
		{"the least", pin1(api.Pin{Name: "zz", Op: api.OpLess, Version: "1", Priority: -10000}), api.OK},
		{"a pin without a name", pin1(api.Pin{Version: "?"}), api.ErrResName},
		{"a pin of two stars", pin1(api.Pin{Name: "**"}), api.ErrResName},
		{"a pin with a version alone", pin1(api.Pin{Name: "*", Version: "1"}), api.ErrResVersion},
		{"a pin with an operator alone", pin1(api.Pin{Name: "any", Op: 1}), api.ErrResVersion},

		{"a hold that is no name", hold1("a"), api.ErrResName},
		{"a hold of all", hold1("*"), api.ErrResName},
		{"a hold of nothing", hold1(""), api.ErrResName},
		{"a hold again", hold1("bb"), api.OK},

		{"a budget of -1", budget(-1), api.ErrArg},
		{"the least budget", budget(-1 << 63), api.ErrArg},
		{"the greatest number", budget(1<<63 - 1), api.ErrArg},
		{"the most budget", budget(api.MaxBudget), api.OK},
		{"one beyond", budget(api.MaxBudget + 1), api.ErrArg},
		{"none", budget(0), api.OK},

		{"both", wish1(samples.Wish("install aa")), api.ErrResBoth},
		{"both, with constraints that leave room", wish1(samples.Wish("install aa(<=1)")), api.ErrResBoth},
		{"both, the removal behind", wish1(samples.Wish("remove cc(=9)")), api.ErrResBoth},
		{"an Essential package goes", wish1(samples.Wish("remove bb")), api.ErrResEssential},
		{"it goes by a constraint", wish1(samples.Wish("remove bb(<=1.0)")), api.ErrResEssential},
		{"it stays by a constraint", wish1(samples.Wish("remove bb(>>1)")), api.OK},
		{"it is not installed", func(s *scene) { s.held = nil; s.r.Wishes = append(s.r.Wishes, samples.Wish("remove bb")) }, api.OK},
		{"the installed one is not Essential", func(s *scene) { s.u[1].Essential = true; s.r.Wishes = append(s.r.Wishes, samples.Wish("remove aa")) }, api.OK},
	} {
		s := base()
		c.spoil(&s)
		if got := check(s); got != c.want {
			t.Errorf("P10.1: %s: Check = %d, want %d", c.what, got, c.want)
		}
		for what, got := range s.calls(t, nil) {
			if c.want != api.OK && got != c.want {
				t.Errorf("P10.2 to P10.5: %s: %s = %d, want %d", c.what, what, got, c.want)
			}
		}
	}
}

// P10.1: what is held has just u's stanza.
func TestCheckStanza(t *testing.T) {
	changes := map[string]func(p *api.Package){
		"Essential":    func(p *api.Package) { p.Essential = !p.Essential },
		"Depends":      func(p *api.Package) { p.Depends = slices.Clone(p.Depends[:1]) },
		"in a clause":  func(p *api.Package) { p.Depends[0][1].Op, p.Depends[0][1].Version = api.OpLess, "9" },
		"PreDepends":   func(p *api.Package) { p.PreDepends[0] = p.PreDepends[0][:1] },
		"Conflicts":    func(p *api.Package) { slices.Reverse(p.Conflicts) },
		"no Conflicts": func(p *api.Package) { p.Conflicts = nil },
		"Provides":     func(p *api.Package) { p.Provides = append(p.Provides, "zz") },
		"Files":        func(p *api.Package) { p.Files[1].Path += "c" },
		"a size":       func(p *api.Package) { p.Files[0].Size++ },
		"a sum":        func(p *api.Package) { p.Files[1].Sum[31]++ },
		"Archive":      func(p *api.Package) { p.Archive += "x" },
		"Size":         func(p *api.Package) { p.Size++ },
		"Sum":          func(p *api.Package) { p.Sum[0]++ },
		"Summary":      func(p *api.Package) { p.Summary = "" },
	}
	for what, change := range changes {
		s := scene{u: []api.Package{samples.Full("aa", "1"), samples.Full("aa", "2")}, held: []api.Held{{Package: samples.Full("aa", "1"), Mark: api.MarkAuto}}}
		if e := check(s); e != api.OK {
			t.Fatalf("P10.1: Check = %d", e)
		}
		change(&s.held[0].Package)
		if e := check(s); e != api.ErrResHeld {
			t.Errorf("P10.1: another %s: Check = %d, want %d", what, e, api.ErrResHeld)
		}
	}
	// Nil and empty are one.
	s := see("aa 1", "aa 1", "", "")
	s.held[0].Depends, s.held[0].PreDepends, s.held[0].Conflicts = []api.Clause{}, []api.Clause{}, []api.Atom{}
	s.held[0].Provides, s.held[0].Files = []string{}, []api.File{}
	if e := check(s); e != api.OK {
		t.Errorf("P10.1: empty lists in the place of none: Check = %d", e)
	}
}

// P10.1: of two that are there at once the first one counts.
func TestCheckOrder(t *testing.T) {
	many := make([]string, api.MaxClauses+1)
	for i := range many {
		many[i] = "zz"
	}
	rows := []wrong{
		{"universe", func(s *scene) { s.u[2].Version = "" }, api.ErrResUniverse},
		{"held", held1(api.Held{Package: samples.Package("dd 1")}), api.ErrResHeld},
		{"a wish's version", wish1(atom(api.WishInstall, "zz", api.OpLess, "")), api.ErrResVersion},
		{"a later wish's kind", wish1(api.Wish{Kind: 9}), api.ErrArg},
		{"a pin's name", pin1(api.Pin{Name: "A"}), api.ErrResName},
		{"a later pin's priority", pin1(api.Pin{Name: "aa", Priority: 1 << 40}), api.ErrArg},
		{"a hold", hold1("a"), api.ErrResName},
		{"budget", budget(-1), api.ErrArg},
		{"both", wish1(samples.Wish("install aa")), api.ErrResBoth},
		{"Essential", wish1(samples.Wish("remove bb")), api.ErrResEssential},
		{"many", func(s *scene) { s.r.Holds = append(s.r.Holds, many...) }, api.ErrResMany},
	}
	for i, a := range rows {
		for _, b := range rows[i:] {
			s := base()
			a.spoil(&s)
			b.spoil(&s)
			for what, got := range s.calls(t, []int{-1}) {
				if got != a.want {
					t.Errorf("P10.1: %s, then %s: %s = %d, want %d", a.what, b.what, what, got, a.want)
				}
			}
		}
	}
}

// P10.1: pins and holds at their limit, and one beyond; all of them are looked at first.
func TestCheckMany(t *testing.T) {
	for _, n := range []int{api.MaxClauses, api.MaxClauses + 1} {
		want := map[bool]api.Errno{true: api.OK, false: api.ErrResMany}[n <= api.MaxClauses]
		pins, holds := make([]api.Pin, n), make([]string, n)
		for i := range n {
			pins[i], holds[i] = api.Pin{Name: "*", Priority: i}, "bb"
		}
		for _, c := range []struct {
			pins  []api.Pin
			holds []string
		}{{pins, nil}, {nil, holds}, {pins, holds}, {pins, holds[:1]}, {pins[:1], holds}} {
			s := base()
			s.r.Pins, s.r.Holds = c.pins, c.holds
			for what, got := range s.calls(t, []int{2}) {
				if got != want && !(want == api.OK && what == "Target") {
					t.Errorf("P10.1: %d pins, %d holds: %s = %d, want %d", len(c.pins), len(c.holds), what, got, want)
				}
			}
		}
		s := base()
		s.r.Pins, s.r.Holds = pins, slices.Clone(holds)
		s.r.Pins[n-1].Name = "A"
		if e := check(s); e != api.ErrResName {
			t.Errorf("P10.1: the last of %d pins has no name: %d", n, e)
		}
		s.r.Pins, s.r.Holds[n-1] = nil, "A"
		if e := check(s); e != api.ErrResName {
			t.Errorf("P10.1: the last of %d holds is no name: %d", n, e)
		}
	}
}
