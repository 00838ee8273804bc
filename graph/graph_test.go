package graph_test

import (
	"math"
	"slices"
	"testing"

	"larder/api"
	"larder/graph"
)

// P12.1, P12.2, P12.4: the document's examples, and what stands at the edges.
func TestParts(t *testing.T) {
	for _, c := range []struct {
		what              string
		needs             lists
		parts             lists
		of                []int
		condensed, sorted lists
	}{
		{"example 1: no nodes", nil, nil, nil, nil, nil},
		{"example 1", lists{{1}, {2}, {0}, {0}}, lists{{0, 1, 2}, {3}}, []int{0, 0, 0, 1}, lists{{}, {0}}, lists{{0, 1, 2}, {3}}},
		{"one node", lists{{}}, lists{{0}}, []int{0}, lists{{}}, lists{{0}}},
		{"one that needs itself", lists{{0, 0}}, lists{{0}}, []int{0}, lists{{}}, lists{{0}}},
		{"nodes without edges", lists{{}, nil, {}}, lists{{0}, {1}, {2}}, []int{0, 1, 2}, lists{{}, {}, {}}, lists{{0}, {1}, {2}}},
		{"an edge several times", lists{{1, 1, 1}, {}}, lists{{0}, {1}}, []int{0, 1}, lists{{1}, {}}, lists{{1}, {0}}},
		{"two that need one another several times", lists{{1, 1}, {0, 1, 0}}, lists{{0, 1}}, []int{0, 0}, lists{{}}, lists{{0, 1}}},
		{
			"a part that is come upon by its greatest node", lists{{3}, {2}, {3}, {1}},
			lists{{0}, {1, 2, 3}}, []int{0, 1, 1, 1}, lists{{1}, {}}, lists{{1, 2, 3}, {0}},
		},
		{
			"parts whose nodes alternate", lists{{2}, {3}, {0}, {1, 0}},
			lists{{0, 2}, {1, 3}}, []int{0, 1, 0, 1}, lists{{}, {0}}, lists{{0, 2}, {1, 3}},
		},
		{
			"and the other way about", lists{{2, 1}, {3}, {0}, {1}},
			lists{{0, 2}, {1, 3}}, []int{0, 1, 0, 1}, lists{{1}, {}}, lists{{1, 3}, {0, 2}},
		},
		{
			"rings that touch in one node", lists{{1}, {2}, {0, 3}, {4}, {2}},
			lists{{0, 1, 2, 3, 4}}, []int{0, 0, 0, 0, 0}, lists{{}}, lists{{0, 1, 2, 3, 4}},
		},
		{
			"an edge into a part that is whole already", lists{{1, 2}, {1}, {1}},
			lists{{0}, {1}, {2}}, []int{0, 1, 2}, lists{{1, 2}, {}, {1}}, lists{{1}, {2}, {0}},
		},
		{
			"a part that is needed from several nodes of one", lists{{1, 4, 2}, {0, 2, 4}, {3}, {2}, {}},
			lists{{0, 1}, {2, 3}, {4}}, []int{0, 0, 1, 1, 2}, lists{{1, 2}, {}, {}}, lists{{2, 3}, {4}, {0, 1}},
		},
		{
			"a part that becomes free behind a greater one", lists{{2}, {}, {}, {1}},
			lists{{0}, {1}, {2}, {3}}, []int{0, 1, 2, 3}, lists{{2}, {}, {}, {1}}, lists{{1}, {2}, {0}, {3}},
		},
	} {
		parts, e1 := graph.Parts(c.needs)
		of, e2 := graph.PartOf(c.needs)
		condensed, e3 := graph.Condense(c.needs)
		sorted, e4 := graph.Sorted(c.needs)
		if e1 != api.OK || e2 != api.OK || !same(parts, c.parts) || !slices.Equal(of, c.of) {
			t.Errorf("P12.1: %s: %v, %d; %v, %d", c.what, parts, e1, of, e2)
		}
		if e3 != api.OK || !same(condensed, c.condensed) {
			t.Errorf("P12.2: %s: %v, %d", c.what, condensed, e3)
		}
		if e4 != api.OK || !same(sorted, c.sorted) {
			t.Errorf("P12.4: %s: %v, %d", c.what, sorted, e4)
		}
		hold(t, c.needs)
	}
}

// P12.3: the document's examples, what is free at once, what becomes free later, knots.
func TestOrder(t *testing.T) {
	for _, c := range []struct {
		what  string
		needs lists
		want  []int
		e     api.Errno
	}{
		{"no nodes", lists{}, nil, api.OK},
		{"example 1", lists{{1}, {2}, {0}, {0}}, nil, api.ErrGraphKnot},
		{"example 2", lists{{2}, {}, {}}, []int{1, 2, 0}, api.OK},
		{"example 2: one that needs itself", lists{{0}}, nil, api.ErrGraphKnot},
		{"one node", lists{{}}, []int{0}, api.OK},
		{"all are free at once", lists{{}, {}, {}}, []int{0, 1, 2}, api.OK},
		{"the least becomes free behind the greatest", lists{{3}, {}, {}, {}, {}}, []int{1, 2, 3, 0, 4}, api.OK},
		{"a lesser one becomes free, and goes ahead of those that were", lists{{2}, {4}, {}, {}, {2}, {}}, []int{2, 0, 3, 4, 1, 5}, api.OK},
		{"an edge several times", lists{{1, 1}, {2, 2, 2}, {}}, []int{2, 1, 0}, api.OK},
		{"one of two needs is told", lists{{1, 3}, {}, {0}, {}}, []int{1, 3, 0, 2}, api.OK},
		{"a knot that others stand behind", lists{{}, {2}, {1}, {1}}, nil, api.ErrGraphKnot},
		{"a knot that needs others", lists{{1, 2}, {0}, {}}, nil, api.ErrGraphKnot},
		{"one of many that needs itself", lists{{}, {0}, {2, 0}, {1}}, nil, api.ErrGraphKnot},
		{"a knot, and an edge to no node", lists{{1}, {0}, {3}}, nil, api.ErrGraph},
		{"one that needs itself and no node", lists{{0, -1}}, nil, api.ErrGraph},
	} {
		if got, e := graph.Order(c.needs); e != c.e || !slices.Equal(got, c.want) {
			t.Errorf("P12.3: %s: %v, %d, want %v, %d", c.what, got, e, c.want, c.e)
		}
		hold(t, c.needs)
	}
}

// P12.5: the document's example, what is none, doubles.
func TestReach(t *testing.T) {
	needs := lists{{1}, {}, {0}}
	for _, c := range []struct {
		what  string
		needs lists
		from  []int
		want  []bool
		e     api.Errno
	}{
		{"example 3", needs, []int{0}, []bool{true, true, false}, api.OK},
		{"from none", needs, nil, []bool{false, false, false}, api.OK},
		{"from an empty list", needs, []int{}, []bool{false, false, false}, api.OK},
		{"a node twice", needs, []int{1, 1}, []bool{false, true, false}, api.OK},
		{"one that reaches the other, behind it", needs, []int{1, 0, 1}, []bool{true, true, false}, api.OK},
		{"all", needs, []int{2}, []bool{true, true, true}, api.OK},
		{"round a ring", lists{{1}, {2}, {1}, {0}}, []int{2}, []bool{false, true, true, false}, api.OK},
		{"no nodes", nil, nil, nil, api.OK},
		{"no nodes, from one", nil, []int{0}, nil, api.ErrGraph},
		{"the one behind the last", needs, []int{3}, nil, api.ErrGraph},
		{"the one ahead of the first", needs, []int{0, -1}, nil, api.ErrGraph},
		{"none ahead of one", needs, []int{math.MaxInt, 0}, nil, api.ErrGraph},
		{"none behind all", needs, []int{2, 1, 0, math.MinInt}, nil, api.ErrGraph},
		{"an edge to no node that is not reached", lists{{1}, {}, {3}}, []int{0}, nil, api.ErrGraph},
		{"an edge to no node, from none", lists{{-1}}, nil, nil, api.ErrGraph},
	} {
		if got, e := graph.Reach(c.needs, c.from); e != c.e || !slices.Equal(got, c.want) {
			t.Errorf("P12.5: %s: %v, %d, want %v, %d", c.what, got, e, c.want, c.e)
		}
	}
}

// P12.6: the document's examples, edges with and without a way back, the least of several shortest ways.
func TestCycle(t *testing.T) {
	ring := lists{{1}, {2}, {0}, {0}}
	ways := lists{{7, 1}, {6, 5, 2}, {4, 3}, {0}, {0}, {3, 0}, {0, 3}, {6, 7}}
	for _, c := range []struct {
		what  string
		needs lists
		u, v  int
		want  []int
		e     api.Errno
	}{
		{"example 1", ring, 2, 0, []int{2, 0, 1}, api.OK},
		{"example 2", lists{{0}}, 0, 0, []int{0}, api.OK},
		{"no edge", ring, 0, 2, nil, api.ErrGraphWay},
		{"an edge and no way back", ring, 3, 0, nil, api.ErrGraphWay},
		{"no edge, though it stands the other way", lists{{1}, {}}, 1, 0, nil, api.ErrGraphWay},
		{"no edge, of one part", lists{{1}, {2}, {0}}, 0, 2, nil, api.ErrGraphWay},
		{"u = v without an edge", lists{{}}, 0, 0, nil, api.ErrGraphWay},
		{"u = v without an edge, in a ring", ring, 0, 0, nil, api.ErrGraphWay},
		{"u = v with an edge, in a ring", lists{{1, 0}, {0}}, 0, 0, []int{0}, api.OK},
		{"v needs itself", lists{{1}, {1, 0}}, 0, 1, []int{0, 1}, api.OK},
		{"both need themselves", lists{{0, 1}, {1, 0}}, 1, 0, []int{1, 0}, api.OK},
		{"an edge several times", lists{{1, 1}, {0, 0}}, 0, 1, []int{0, 1}, api.OK},
		{"there and back", lists{{1}, {2, 0}, {0}}, 0, 1, []int{0, 1}, api.OK},
		{"the shorter way, by greater nodes", lists{{1}, {2, 4}, {3}, {0}, {0}}, 0, 1, []int{0, 1, 4}, api.OK},
		{"of several ways the least", ways, 0, 1, []int{0, 1, 5}, api.OK},
		{"the least, though another edge goes to a lesser node", ways, 0, 7, []int{0, 7, 6}, api.OK},
		{"least node by node, not as a set", lists{{1}, {3, 2}, {5}, {4}, {0}, {0}}, 0, 1, []int{0, 1, 2, 5}, api.OK},
		{"a lesser node that leads on no shortest way", lists{{4}, {2}, {0}, {0}, {1, 3}}, 0, 4, []int{0, 4, 3}, api.OK},
		{"through the last edge", ways, 6, 0, []int{6, 0, 1}, api.OK},
		{"u behind the last", ring, 4, 0, nil, api.ErrGraph},
		{"v behind the last", ring, 0, 4, nil, api.ErrGraph},
		{"u ahead of the first", ring, -1, 0, nil, api.ErrGraph},
		{"v ahead of the first", ring, 0, -1, nil, api.ErrGraph},
		{"both far out", ring, math.MinInt, math.MaxInt, nil, api.ErrGraph},
		{"no nodes", nil, 0, 0, nil, api.ErrGraph},
		{"a cycle, and an edge to no node elsewhere", lists{{0}, {2}}, 0, 0, nil, api.ErrGraph},
		{"no cycle, and an edge to no node", lists{{}, {-1}}, 0, 0, nil, api.ErrGraph},
	} {
		if got, e := graph.Cycle(c.needs, c.u, c.v); e != c.e || !slices.Equal(got, c.want) {
			t.Errorf("P12.6: %s: %v, %d, want %v, %d", c.what, got, e, c.want, c.e)
		}
		hold(t, c.needs)
	}
}

// P12.7: the document's example, doubles, an edge to the node itself, lists that fall.
func TestTurned(t *testing.T) {
	for _, c := range []struct {
		what  string
		needs lists
		want  lists
	}{
		{"example 3", lists{{1}, {}, {0}}, lists{{2}, {0}, {}}},
		{"no nodes", nil, nil},
		{"no edges", lists{{}, {}}, lists{{}, {}}},
		{"one that needs itself", lists{{0, 0}}, lists{{0}}},
		{"doubles, not on end", lists{{1, 0, 1}, {0, 1, 0}}, lists{{0, 1}, {0, 1}}},
		{"a list that falls", lists{{2, 1}, {}, {}}, lists{{}, {0}, {0}}},
		{"many that need one", lists{{2}, {2}, {2}, {2, 2}}, lists{{}, {}, {0, 1, 2, 3}, {}}},
	} {
		if got, e := graph.Turned(c.needs); e != api.OK || !same(got, c.want) {
			t.Errorf("P12.7: %s: %v, %d, want %v", c.what, got, e, c.want)
		}
		hold(t, c.needs)
	}
}

// P12.1 to P12.7: wrong inputs, with each call; a knot besides, and nodes ahead and behind.
func TestWrong(t *testing.T) {
	for _, needs := range []lists{
		{{1}}, {{-1}}, {{0, 1}}, {{math.MaxInt}}, {{math.MinInt}}, {{1 << 32}},
		{{}, {0, 2}}, {{2}, {}}, {{1}, {0, -1}}, {{1}, {0}, {1, 3}}, {{0, 0}, {-1, 0}},
		{nil, nil, {0, 1, 2, 3}}, {{3, 0, 1}, nil, nil},
	} {
		if isRight(needs) {
			t.Errorf("%v is right", needs)
		}
		holdRefused(t, needs)
	}
}
