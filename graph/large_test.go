package graph_test

import (
	"slices"
	"testing"

	"larder/api"
	"larder/graph"
)

const many = api.MaxUniverse

// made makes a graph of so many nodes, each with its needs.
func made(n int, needs func(u int) []int) lists {
	list := make(lists, n)
	for u := range list {
		list[u] = needs(u)
	}
	return list
}

// rising tells the nodes from one up to another one, without it.
func rising(from, to int) []int {
	var list []int
	for u := from; u < to; u++ {
		list = append(list, u)
	}
	return list
}

func falling(to int) []int {
	list := rising(0, to)
	slices.Reverse(list)
	return list
}

// up tells a chain in which each needs the next one, down one in which each needs the one ahead.
func up(n int) lists {
	return made(n, func(u int) []int { return rising(u+1, min(u+2, n)) })
}

func down(n int) lists {
	return made(n, func(u int) []int { return rising(max(u-1, 0), u) })
}

// P12.1 to P12.5, P12.7: one long chain, from either end.
func TestLongChain(t *testing.T) {
	for _, c := range []struct {
		needs, turned lists
		order         []int
		first         int
	}{
		{up(many), down(many), falling(many), 0},
		{down(many), up(many), rising(0, many), many - 1},
	} {
		if got, e := graph.Order(c.needs); e != api.OK || !slices.Equal(got, c.order) {
			t.Errorf("P12.3: a long chain: %d nodes, %d", len(got), e)
		}
		if got, e := graph.Parts(c.needs); e != api.OK || len(got) != many || !slices.Equal(slices.Concat(got...), rising(0, many)) {
			t.Errorf("P12.1: a long chain: %d parts, %d", len(got), e)
		}
		if got, e := graph.Condense(c.needs); e != api.OK || !same(got, c.needs) {
			t.Errorf("P12.2: a long chain: %d parts, %d", len(got), e)
		}
		if got, e := graph.Sorted(c.needs); e != api.OK || len(got) != many || !slices.Equal(slices.Concat(got...), c.order) {
			t.Errorf("P12.4: a long chain: %d parts, %d", len(got), e)
		}
		if got, e := graph.Reach(c.needs, []int{c.first}); e != api.OK || len(got) != many || slices.Contains(got, false) {
			t.Errorf("P12.5: a long chain: %d nodes, %d", len(got), e)
		}
		if got, e := graph.Turned(c.needs); e != api.OK || !same(got, c.turned) {
			t.Errorf("P12.7: a long chain: %d nodes, %d", len(got), e)
		}
	}
}

// P12.1, P12.3, P12.4, P12.6: one long ring.
func TestLongRing(t *testing.T) {
	ring := made(many, func(u int) []int { return []int{(u + 1) % many} })
	for what, call := range map[string]func(lists) (lists, api.Errno){"P12.1": graph.Parts, "P12.4": graph.Sorted} {
		if got, e := call(ring); e != api.OK || len(got) != 1 || !slices.Equal(got[0], rising(0, many)) {
			t.Errorf("%s: a long ring: %d parts, %d", what, len(got), e)
		}
	}
	if got, e := graph.Order(ring); e != api.ErrGraphKnot || len(got) > 0 {
		t.Errorf("P12.3: a long ring: %d nodes, %d", len(got), e)
	}
	want := append(rising(7, many), rising(0, 7)...)
	if got, e := graph.Cycle(ring, 7, 8); e != api.OK || !slices.Equal(got, want) {
		t.Errorf("P12.6: a long ring: %d nodes, %d", len(got), e)
	}
}

// P12.1, P12.2, P12.4, P12.6: many rings of three, each touching the next one in a node, and the same with an edge in the place of the node.
func TestManyRings(t *testing.T) {
	const rings = many / 3
	// The nodes 2k, 2k + 1, 2k + 2 are a ring.
	touching := made(2*rings+1, func(u int) []int {
		switch {
		case u%2 == 1:
			return []int{u + 1}
		case u == 0:
			return []int{1}
		case u == 2*rings:
			return []int{u - 2}
		}
		return []int{u - 2, u + 1}
	})
	if got, e := graph.Parts(touching); e != api.OK || len(got) != 1 || len(got[0]) != len(touching) {
		t.Errorf("P12.1: rings that touch: %d parts, %d", len(got), e)
	}
	if got, e := graph.Cycle(touching, rings/2*2, rings/2*2+1); e != api.OK || !slices.Equal(got, rising(rings/2*2, rings/2*2+3)) {
		t.Errorf("P12.6: rings that touch: %v, %d", got, e)
	}
	apart := made(3*rings, func(u int) []int {
		switch {
		case u%3 < 2:
			return []int{u + 1}
		case u == 3*rings-1:
			return []int{u - 2}
		}
		return []int{u + 1, u - 2}
	})
	parts, e := graph.Parts(apart)
	if e != api.OK || len(parts) != rings || !slices.Equal(parts[rings-1], rising(3*rings-3, 3*rings)) {
		t.Errorf("P12.1: rings in a row: %d parts, %d", len(parts), e)
	}
	if got, e := graph.Condense(apart); e != api.OK || !same(got, up(rings)) {
		t.Errorf("P12.2: rings in a row: %d parts, %d", len(got), e)
	}
	slices.Reverse(parts)
	if got, e := graph.Sorted(apart); e != api.OK || !same(got, parts) {
		t.Errorf("P12.4: rings in a row: %d parts, %d", len(got), e)
	}
}

// P12.1 to P12.3, P12.5, P12.7: as many edges as there can be of a thousand nodes, and one edge a million times.
func TestManyEdges(t *testing.T) {
	const nodes = 1000
	full := made(nodes, func(int) []int { return rising(0, nodes) })
	if got, e := graph.Parts(full); e != api.OK || !same(got, lists{rising(0, nodes)}) {
		t.Errorf("P12.1: all edges: %d parts, %d", len(got), e)
	}
	if got, e := graph.Turned(full); e != api.OK || !same(got, full) {
		t.Errorf("P12.7: all edges: %d nodes, %d", len(got), e)
	}
	ahead := made(nodes, func(u int) []int { return rising(0, u) })
	if got, e := graph.Order(ahead); e != api.OK || !slices.Equal(got, rising(0, nodes)) {
		t.Errorf("P12.3: all edges to lesser nodes: %v, %d", got, e)
	}
	again := lists{make([]int, nodes*nodes), make([]int, nodes*nodes)}
	if got, e := graph.Condense(again); e != api.OK || !same(got, lists{{}, {0}}) {
		t.Errorf("P12.2: one edge many times: %d parts, %d", len(got), e)
	}
	if got, e := graph.Turned(again); e != api.OK || !same(got, lists{{0, 1}, {}}) {
		t.Errorf("P12.7: one edge many times: %d nodes, %d", len(got), e)
	}
	if got, e := graph.Order(lists{{}, again[1]}); e != api.OK || !slices.Equal(got, []int{0, 1}) {
		t.Errorf("P12.3: one edge many times: %v, %d", got, e)
	}
	if got, e := graph.Reach(again, make([]int, nodes*nodes)); e != api.OK || !slices.Equal(got, []bool{true, false}) {
		t.Errorf("P12.5: from one node many times: %v, %d", got, e)
	}
}

// P12.3, P12.7: one node that all others need, and one that needs all others.
func TestStar(t *testing.T) {
	const middle = many / 2
	needed := made(many, func(u int) []int {
		if u == middle {
			return nil
		}
		return []int{middle}
	})
	want := append([]int{middle}, append(rising(0, middle), rising(middle+1, many)...)...)
	if got, e := graph.Order(needed); e != api.OK || !slices.Equal(got, want) {
		t.Errorf("P12.3: one that all need: %d nodes, %d", len(got), e)
	}
	needing, e := graph.Turned(needed)
	want = append(rising(0, middle), append(rising(middle+1, many), middle)...)
	if got, e2 := graph.Order(needing); e != api.OK || e2 != api.OK || !slices.Equal(got, want) {
		t.Errorf("P12.3: one that needs all: %d nodes, %d", len(got), e2)
	}
}
