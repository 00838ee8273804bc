package graph_test

import (
	"reflect"
	"slices"
	"testing"

	"larder/api"
	"larder/graph"
	"larder/samples"
)

// given is what the calls are handed, with room beyond the ends of all lists.
type given struct {
	needs lists
	from  []int
}

func roomy(needs lists, from []int) given {
	// What stands beyond the ends is a node, so that a call that looked there would go on.
	return given{samples.RoomyRows(needs, 0), samples.Roomy(from, 0)}
}

func (g given) room() given { return given{samples.RoomOfRows(g.needs), samples.Room(g.from)} }

func (g given) spoil() {
	samples.FillRows(g.needs, 1)
	samples.Fill(g.from, 1)
}

// answers is what the calls answer.
type answers struct {
	rows    []lists // Parts, Condense, Sorted, Turned
	lists   lists   // PartOf, Order, Cycle
	reached []bool
	e       []api.Errno
}

func (g given) ask() answers {
	var a answers
	for _, call := range []func(lists) (lists, api.Errno){graph.Parts, graph.Condense, graph.Sorted, graph.Turned} {
		rows, e := call(g.needs)
		a.rows, a.e = append(a.rows, rows), append(a.e, e)
	}
	cycle := func(needs lists) ([]int, api.Errno) { return graph.Cycle(needs, 1, 2) }
	for _, call := range []func(lists) ([]int, api.Errno){graph.PartOf, graph.Order, cycle} {
		list, e := call(g.needs)
		a.lists, a.e = append(a.lists, list), append(a.e, e)
	}
	reached, e := graph.Reach(g.needs, g.from)
	a.reached, a.e = reached, append(a.e, e)
	return a
}

// copied tells a copy that shares no memory.
func (a answers) copied() answers {
	b := answers{reached: slices.Clone(a.reached), e: a.e}
	for _, rows := range append(slices.Clone(a.rows), a.lists) {
		var all lists
		for _, row := range rows {
			all = append(all, slices.Clone(row))
		}
		b.rows = append(b.rows, all)
	}
	b.lists = b.rows[len(a.rows)]
	b.rows = b.rows[:len(a.rows)]
	return b
}

func (a answers) spoil() {
	for _, rows := range a.rows {
		samples.FillRows(rows, -9)
	}
	for _, list := range a.lists {
		samples.Fill(list, -9)
	}
	samples.Fill(a.reached, !slices.Contains(a.reached, true))
}

// someGiven tells a graph with parts of several nodes, doubles and a node that needs itself; one with an order; one that is refused; none.
func someGiven() []given {
	return []given{
		roomy(lists{{1, 1, 4}, {2, 5, 3}, {1, 2}, {4, 4}, {3}, {}}, []int{3, 3, 5}),
		roomy(lists{{3, 3}, {0}, nil, {2}}, []int{1}),
		roomy(lists{{1}, {2}, {1}, {4}}, []int{9}),
		roomy(nil, nil),
	}
}

// P12.1 to P12.7: what is handed in is not written into, and not kept; what stands beyond its end is not looked at.
func TestGivenMemory(t *testing.T) {
	for i, g := range someGiven() {
		before := g.room()
		got := g.ask()
		if !reflect.DeepEqual(g.room(), before) {
			t.Errorf("P12.1: %d: what is handed in is written into", i)
		}
		kept := got.copied()
		g.spoil()
		if !reflect.DeepEqual(got.copied(), kept) {
			t.Errorf("P12.1: %d: an answer shares memory with what was handed in", i)
		}
		if again := someGiven()[i].ask(); !reflect.DeepEqual(again.copied(), kept) {
			t.Errorf("P12.1: %d: asked again: %+v, want %+v", i, again, kept)
		}
	}
}

// P12.1 to P12.7: what is answered is new memory.
func TestAnsweredMemory(t *testing.T) {
	for i, g := range someGiven() {
		before := g.room()
		got, kept := g.ask(), g.ask()
		want := kept.copied()
		got.spoil()
		if !reflect.DeepEqual(kept.copied(), want) || !reflect.DeepEqual(g.ask().copied(), want) {
			t.Errorf("P12.1: %d: two answers share memory", i)
		}
		if !reflect.DeepEqual(g.room(), before) {
			t.Errorf("P12.1: %d: what is written into an answer is seen in what was handed in", i)
		}
	}
}

// P12.1, P12.2, P12.4, P12.7: no two lists of one answer share memory, room beyond their ends included.
func TestListsApart(t *testing.T) {
	for i, g := range someGiven() {
		for call, rows := range g.ask().rows {
			for number, row := range rows {
				samples.Fill(row, number)
			}
			for number, row := range rows {
				if slices.ContainsFunc(row[:cap(row)], func(x int) bool { return x != number }) {
					t.Errorf("P12.1: %d, call %d: the list %d shares memory with another one", i, call, number)
				}
			}
		}
	}
}

// Nil and empty are one.
func TestNothing(t *testing.T) {
	for _, needs := range []lists{{nil, {0}, nil}, {{}, {0}, {}}} {
		hold(t, needs)
		for _, from := range [][]int{nil, {}} {
			if got, e := graph.Reach(needs, from); e != api.OK || !slices.Equal(got, []bool{false, false, false}) {
				t.Errorf("P12.5: Reach(%#v, %#v) = %v, %d", needs, from, got, e)
			}
		}
	}
	for _, needs := range []lists{nil, {}} {
		hold(t, needs)
		if got := roomy(needs, nil).ask(); !slices.Equal(got.e, []api.Errno{0, 0, 0, 0, 0, 0, api.ErrGraph, 0}) {
			t.Errorf("P12.1: of no nodes: %+v", got)
		}
	}
}
