package graph_test

import (
	"math"
	"math/rand/v2"
	"slices"
	"testing"

	"larder/samples"
)

// P12.1 to P12.8: all graphs of few nodes, their edges in any order and number, some to no node.
func TestSmall(t *testing.T) {
	t.Parallel()
	for _, c := range []struct {
		nodes, most int
		edges       []int
	}{
		{1, 4, []int{-1, 0, 1}},
		{2, 3, []int{-1, 0, 1, 2}},
		{3, 2, []int{-1, 0, 1, 2, 3}},
	} {
		for _, needs := range samples.Lists(samples.Lists(c.edges, c.most), c.nodes) {
			hold(t, needs)
		}
	}
}

// P12.1 to P12.8: all graphs of four nodes, each edge standing once or not at all.
func TestFour(t *testing.T) {
	t.Parallel()
	for edges := range 1 << 16 {
		needs := make(lists, 4)
		for edge := range 16 {
			if edges>>edge&1 == 1 {
				needs[edge/4] = append(needs[edge/4], edge%4)
			}
		}
		hold(t, needs)
	}
}

// mixed makes a graph of so many nodes and edges by chance, an edge perhaps several times.
func mixed(r *rand.Rand, nodes, edges int) lists {
	needs := make(lists, nodes)
	for range edges {
		u := r.IntN(nodes)
		needs[u] = append(needs[u], r.IntN(nodes))
	}
	return needs
}

// P12.1 to P12.8: mixed graphs, of which enough have knots and single nodes beside each other, and enough have an order.
func TestMixed(t *testing.T) {
	t.Parallel()
	r := rand.New(rand.NewPCG(12, 1))
	free, several, both := 0, 0, 0
	for range 4000 {
		nodes := 5 + r.IntN(5)
		parts, knots := hold(t, mixed(r, nodes, r.IntN(2*nodes)))
		switch {
		case knots == 0:
			free++
		case knots > 1:
			several++
		case parts > 2:
			both++
		}
	}
	if free < 300 || several < 300 || both < 300 {
		t.Errorf("the mixture is no good: %d without a knot, %d with several, %d with one and parts beside it", free, several, both)
	}
}

// knotless makes a graph without a knot by chance: each node needs only such as stand ahead of it in a mixed row.
func knotless(r *rand.Rand, nodes, edges int) lists {
	row := r.Perm(nodes)
	needs := make(lists, nodes)
	for range edges {
		i := r.IntN(nodes)
		if i > 0 {
			needs[row[i]] = append(needs[row[i]], row[r.IntN(i)])
		}
	}
	return needs
}

// P12.1 to P12.5, P12.7: mixed graphs with more nodes, with an order and with parts of all sizes.
func TestMixedMore(t *testing.T) {
	t.Parallel()
	r := rand.New(rand.NewPCG(12, 2))
	for range 150 {
		nodes := 10 + r.IntN(30)
		for _, needs := range []lists{knotless(r, nodes, r.IntN(3*nodes)), mixed(r, nodes, nodes+r.IntN(nodes/2))} {
			w := wordsOf(needs)
			w.holdParts(t)
			w.holdOrder(t)
			w.holdReach(t)
			w.holdFollows(t)
		}
	}
}

// P12.1 to P12.7: a graph with one edge to no node, wherever it stands.
func TestWrongEdge(t *testing.T) {
	t.Parallel()
	r := rand.New(rand.NewPCG(12, 3))
	for range 500 {
		needs := mixed(r, 1+r.IntN(6), r.IntN(12))
		for _, v := range []int{-1, len(needs), len(needs) + 1, math.MaxInt, math.MinInt, 1 << 32, -1 << 32} {
			u := r.IntN(len(needs))
			wrong := slices.Clone(needs)
			wrong[u] = slices.Insert(slices.Clone(wrong[u]), r.IntN(len(wrong[u])+1), v)
			hold(t, wrong)
		}
	}
}
