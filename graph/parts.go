package graph

import (
	"iter"
	"slices"
)

// division is a graph's nodes as parts.
type division struct {
	of    []int // for each node the place of its part
	count int
}

func divide(needs [][]int) division {
	of, count := numbered(heads(needs))
	return division{of, count}
}

func (d division) parts() [][]int { return gathered(d.count, slices.All(d.of)) }

func (d division) condensed(needs [][]int) [][]int {
	return turned(gathered(d.count, d.between(needs)))
}

// between goes through the edges from one part to another, as edges of the parts' places.
func (d division) between(needs [][]int) iter.Seq2[int, int] {
	return func(yield func(int, int) bool) {
		for u, v := range edges(needs) {
			if d.of[u] != d.of[v] && !yield(d.of[u], d.of[v]) {
				return
			}
		}
	}
}

// none is no node.
const none = -1

// frame is a node whose needs are being gone through.
type frame struct {
	node int
	next int // the place of the need that is looked at next
}

// search goes down from node to node, Tarjan's way: a node is open from when it is come upon until its part is known.
type search struct {
	needs  [][]int
	frames []frame
	open   []int // in the order in which they were come upon
	seen   int   // how many nodes have been come upon
	rank   []int // of each node, as which it was come upon, from 1 on; 0: not yet
	low    []int // of each node, the least rank of an open node that it is known to reach
	head   []int // of each node, the first of its part that was come upon
}

// heads tells for each node one of its part, the same for all of them.
func heads(needs [][]int) []int {
	n := len(needs)
	s := search{needs: needs, rank: make([]int, n), low: make([]int, n), head: make([]int, n)}
	for u := range s.head {
		s.head[u] = none
	}
	for u := range needs {
		if s.rank[u] == 0 {
			s.explore(u)
		}
	}
	return s.head
}

// explore finds the parts of all that a node reaches.
func (s *search) explore(u int) {
	s.enter(u)
down:
	for len(s.frames) > 0 {
		top := &s.frames[len(s.frames)-1]
		for list := s.needs[top.node]; top.next < len(list); {
			v := list[top.next]
			top.next++
			if s.rank[v] == 0 {
				s.enter(v)
				continue down
			}
			if s.head[v] == none {
				s.low[top.node] = min(s.low[top.node], s.rank[v])
			}
		}
		s.leave()
	}
}

func (s *search) enter(u int) {
	s.seen++
	s.rank[u], s.low[u] = s.seen, s.seen
	s.open = append(s.open, u)
	s.frames = append(s.frames, frame{node: u})
}

// leave ends the topmost frame, whose needs have all been gone through.
func (s *search) leave() {
	last := len(s.frames) - 1
	u := s.frames[last].node
	s.frames = s.frames[:last]
	if s.low[u] == s.rank[u] {
		s.shut(u)
		return
	}
	// What is no head reaches an open node of a lesser rank, so there is a frame below.
	below := s.frames[last-1].node
	s.low[below] = min(s.low[below], s.low[u])
}

// shut makes a part of a head and all that was come upon since and is still open.
func (s *search) shut(head int) {
	first := len(s.open) - 1
	for s.open[first] != head {
		first--
	}
	for _, u := range s.open[first:] {
		s.head[u] = head
	}
	s.open = s.open[:first]
}
