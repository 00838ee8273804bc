package policy_test

import (
	"reflect"
	"slices"
	"testing"

	"larder/api"
	"larder/policy"
	"larder/samples"
)

// given is what New is handed, with room beyond the ends of all lists.
type given struct {
	u     []api.Package
	held  []api.Held
	pins  []api.Pin
	holds []string
}

func someGiven() given {
	return given{
		u: samples.RoomyPackages([]api.Package{
			samples.Full("aa", "1"), samples.Full("aa", "2"), samples.Full("bb", "1"), samples.Full("bb", "2"), samples.Full("cc", "1"),
		}),
		held:  samples.RoomyHeld([]api.Held{{Package: samples.Full("bb", "1"), Mark: api.MarkAuto}, {Package: samples.Full("aa", "1")}}),
		pins:  samples.Roomy([]api.Pin{pin("bb", api.OpMore, "1", 600), pin("*", api.OpEqual, "1", 7)}, pin("beyond", 9, "", 0)),
		holds: samples.Roomy([]string{"zz", "aa"}, "beyond"),
	}
}

// make makes the policy.
func (g given) make(t *testing.T) *policy.Policy {
	t.Helper()
	p, e := policy.New(g.u, g.held, g.pins, g.holds)
	if e != api.OK {
		t.Fatalf("P8.2: New = %d", e)
	}
	return p
}

// extent tells a copy of all that has room there.
func (g given) extent() given {
	return given{samples.ExtentOfPackages(g.u), samples.ExtentOfHeld(g.held), samples.Room(g.pins), samples.Room(g.holds)}
}

// spoil writes over all that has room there.
func (g given) spoil() {
	samples.SpoilPackages(g.u)
	samples.SpoilHeld(g.held)
	samples.Fill(g.pins, pin("*", api.OpAny, "", -10000))
	samples.Fill(g.holds, "bb")
}

// holdGiven holds what the policy of someGiven tells.
func holdGiven(t *testing.T, what string, p *policy.Policy) {
	t.Helper()
	w := world{
		packages:  []string{"aa 1", "aa 2", "bb 1", "bb 2", "cc 1"},
		installed: []string{"bb 1 auto", "aa 1"},
		pins:      []api.Pin{pin("bb", api.OpMore, "1", 600), pin("*", api.OpEqual, "1", 7)},
		holds:     []string{"zz", "aa"},
	}
	w.hold(t, p)
	if tell(p.All()) != "aa 1, aa 2, bb 2, bb 1, cc 1" || tell(p.Upgrades()) != "bb 2" {
		t.Errorf("P8.9: %s: All = %s, Upgrades = %s", what, tell(p.All()), tell(p.Upgrades()))
	}
}

// P8.9: what is handed in is neither changed nor kept.
func TestGivenMemory(t *testing.T) {
	g := someGiven()
	before, p := g.extent(), g.make(t)
	holdGiven(t, "as it is", p)
	if !reflect.DeepEqual(g.extent(), before) {
		t.Error("P8.9: New writes into what it is given")
	}
	g.spoil()
	holdGiven(t, "what was handed in is written over", p)
}

// P8.9: what is refused is not changed either.
func TestRefusedMemory(t *testing.T) {
	for _, wrong := range []func(g *given){
		func(g *given) { slices.Reverse(g.u) },
		func(g *given) { g.held[1].Mark = 2 },
		func(g *given) { g.pins[1].Op = 6 },
		func(g *given) { g.holds[1] = "?" },
	} {
		g := someGiven()
		wrong(&g)
		before := g.extent()
		if p, e := policy.New(g.u, g.held, g.pins, g.holds); p != nil || e == api.OK {
			t.Errorf("P8.2: New of what is wrong: %d", e)
		}
		if !reflect.DeepEqual(g.extent(), before) {
			t.Error("P8.9: New writes into what it refuses")
		}
	}
}

// P8.9: what is answered is new memory.
func TestAnsweredMemory(t *testing.T) {
	g := someGiven()
	before, p := g.extent(), g.make(t)
	bad := api.Key{Name: "spoiled"}
	for what, answer := range map[string]func() []api.Key{
		"Ranked":   func() []api.Key { return p.Ranked("bb") },
		"All":      p.All,
		"Upgrades": p.Upgrades,
	} {
		kept, other := answer(), answer()
		want := slices.Clone(kept)
		samples.Fill(other, bad)
		if !slices.Equal(kept, want) {
			t.Errorf("P8.9: two answers of %s share memory", what)
		}
		// What is added to an answer goes nowhere else.
		_ = append(answer(), bad, bad)
		holdGiven(t, what+" is written over", p)
		if !reflect.DeepEqual(g.extent(), before) {
			t.Errorf("P8.9: what is written into %s is seen in what was handed in", what)
		}
	}
}

// P8.9: two policies have nothing in common.
func TestApart(t *testing.T) {
	g := someGiven()
	p := g.make(t)
	q, _ := policy.New(g.u, nil, nil, []string{"bb"})
	samples.Fill(q.All(), api.Key{})
	if tell(q.All()) != "aa 2, aa 1, bb 2, bb 1, cc 1" || q.Held("aa") || q.Held("bb") {
		t.Errorf("P8.9: the other policy: All = %s", tell(q.All()))
	}
	holdGiven(t, "another policy over the same packages", p)
}
