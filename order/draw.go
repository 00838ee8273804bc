package order

import (
	"slices"

	"larder/api"
)

// reason is an open clause that draws an edge.
type reason struct {
	clause api.Clause
	ahead  unit // where the edge leads to
}

// sketch is a move with its order graph: for each unit the places of those at or ahead of it.
type sketch struct {
	move
	needs  [][]int
	asking map[string][]reason // by the names that their clauses have
}

// draw tells the order graph, with lists that rise.
func (m move) draw() sketch {
	g := sketch{m, make([][]int, len(m.units)), make(map[string][]reason)}
	for _, u := range m.units {
		g.drawComing(u)
		g.drawGoing(u)
	}
	g.drawStaying()
	g.drawPaths()
	for i, list := range g.needs {
		slices.Sort(list)
		g.needs[i] = slices.Compact(list)
	}
	return g
}

// edge draws an edge: the one unit has the other at or ahead of it. False: there is none, unless both change and are unlike.
func (g sketch) edge(u, ahead unit) bool {
	if !g.isLeft(u) || !g.isLeft(ahead) || u == ahead {
		return false
	}
	place := g.left[u]
	g.needs[place] = append(g.needs[place], g.left[ahead])
	return true
}

// edgeFor draws an edge that is there for an open clause.
func (g sketch) edgeFor(c api.Clause, u, ahead unit) {
	if !g.edge(u, ahead) {
		return
	}
	for _, a := range c {
		g.asking[a.Name] = append(g.asking[a.Name], reason{c, ahead})
	}
}

// drawComing draws the edges to what meets the open clauses of what comes, and to what its Conflicts name.
func (g sketch) drawComing(u unit) {
	p := g.to.of(u.name())
	for _, n := range g.openOf(p) {
		g.edgeFor(n.clause, u, g.unitOf(g.to.first(n)))
	}
	for _, a := range p.Conflicts {
		for name := range g.from.satisfiers(a) {
			g.edge(u, g.unitOf(name))
		}
	}
}

// drawGoing draws the edges from what meets the open clauses of what goes, and from what its Conflicts name.
func (g sketch) drawGoing(u unit) {
	p := g.from.of(u.name())
	for _, n := range g.openOf(p) {
		g.edgeFor(n.clause, g.unitOf(g.from.first(n)), u)
	}
	for _, a := range p.Conflicts {
		for name := range g.to.satisfiers(a) {
			g.edge(g.unitOf(name), u)
		}
	}
}

// drawStaying draws the edges from what meets the open clauses of what stays to what will meet them.
func (g sketch) drawStaying() {
	for _, p := range g.both.list {
		for _, n := range g.openOf(p) {
			g.edgeFor(n.clause, g.unitOf(g.from.first(n)), g.unitOf(g.to.first(n)))
		}
	}
}

// drawPaths draws the edges from what comes to what goes with one of its paths.
func (g sketch) drawPaths() {
	owners := make(map[string]unit)
	for _, u := range g.units {
		for _, f := range g.from.of(u.name()).Files {
			owners[f.Path] = u
		}
	}
	for _, u := range g.units {
		for _, f := range g.to.of(u.name()).Files {
			g.edge(u, owners[f.Path])
		}
	}
}

// openOf tells the clauses of a package that nothing that stays meets.
func (m move) openOf(p api.Package) []need { return slices.DeleteFunc(needsOf(p), m.both.meets) }
