package solver_test

import (
	"reflect"
	"slices"
	"testing"

	"larder/api"
	"larder/samples"
	"larder/solver"
)

// given is what the calls are handed, with room beyond the ends of all lists.
type given struct {
	clauses lists
	prefer  []int
	values  []bool
}

func roomy(clauses lists, prefer []int, values []bool) given {
	return given{samples.RoomyRows(clauses, 77), samples.Roomy(prefer, 77), samples.Roomy(values, true)}
}

// room tells a copy of all that has room there.
func (g given) room() given {
	return given{samples.RoomOfRows(g.clauses), samples.Room(g.prefer), samples.Room(g.values)}
}

// spoil writes over all that has room there.
func (g given) spoil() {
	samples.FillRows(g.clauses, 1)
	samples.Fill(g.prefer, 1)
	samples.Fill(g.values, true)
}

// answers is what the three calls answer.
type answers struct {
	found api.Found
	place int
	core  []int
}

func (g given) ask(n int) answers {
	var a answers
	a.found, _ = solver.Solve(n, g.clauses, g.prefer, 99)
	a.place, _ = solver.Holds(n, g.clauses, g.values)
	a.core, _, _ = solver.Core(n, g.clauses, 99)
	return a
}

// copied tells a copy that shares no memory.
func (a answers) copied() answers {
	a.found.Values, a.core = slices.Clone(a.found.Values), slices.Clone(a.core)
	return a
}

// someGiven tells what has a model, with a step back on the way to it; what has none; what is refused; no clauses.
func someGiven() []given {
	values := []bool{false, true, false}
	return []given{
		roomy(lists{{1, 2}, {-1, 3}, {-1, -3}}, []int{1, -3}, values),
		roomy(lists{{1, 2}, {1, 2}, {-1, 2}, {1, -2}, {}, {-1, -2}}, []int{3, 3, -1}, values),
		roomy(lists{{2}, {0}}, []int{4}, values),
		roomy(nil, []int{1, -3}, values),
	}
}

// P9.1 to P9.3: what is handed in is not written into, nor kept.
func TestGivenMemory(t *testing.T) {
	for i, g := range someGiven() {
		before := g.room()
		first := g.ask(3)
		if !reflect.DeepEqual(g.room(), before) {
			t.Errorf("P9.1: %d: what is handed in is written into", i)
		}
		kept := first.copied()
		g.spoil()
		if !reflect.DeepEqual(first.copied(), kept) {
			t.Errorf("P9.1: %d: the answer shares memory with what was handed in", i)
		}
		if again := someGiven()[i].ask(3); !reflect.DeepEqual(again.copied(), kept) {
			t.Errorf("P9.1: %d: asked again: %+v, want %+v", i, again, kept)
		}
	}
}

// P9.1 to P9.3: what is answered is new memory.
func TestAnsweredMemory(t *testing.T) {
	for i, g := range someGiven() {
		before := g.room()
		first, second := g.ask(3), g.ask(3)
		kept := second.copied()
		samples.Fill(first.found.Values, !slices.Contains(first.found.Values, true))
		samples.Fill(first.core, 77)
		if !reflect.DeepEqual(second.copied(), kept) || !reflect.DeepEqual(g.ask(3).copied(), kept) {
			t.Errorf("P9.1: %d: two answers share memory", i)
		}
		if !reflect.DeepEqual(g.room(), before) {
			t.Errorf("P9.1: %d: what is written into an answer is seen in what was handed in", i)
		}
	}
}

// Nil and empty are one.
func TestNothing(t *testing.T) {
	for _, c := range []struct {
		clauses lists
		want    api.Found
	}{
		{nil, api.Found{Verdict: api.Sat, Values: []bool{false}}},
		{lists{}, api.Found{Verdict: api.Sat, Values: []bool{false}}},
		{lists{{1}, nil}, api.Found{Verdict: api.Unsat, Steps: 2}},
		{lists{{1}, {}}, api.Found{Verdict: api.Unsat, Steps: 2}},
	} {
		for _, prefer := range [][]int{nil, {}} {
			if got, e := solver.Solve(1, c.clauses, prefer, 99); e != api.OK || !same(got, c.want) {
				t.Errorf("P9.1: %#v, %#v: %+v, %d, want %+v", c.clauses, prefer, got, e, c.want)
			}
		}
	}
}
