package graph

import (
	"container/heap"
	"sort"
)

// unreached stands for the number of steps to a node that no steps lead to.
const unreached = -1

// steps tells for each node how many edges lead to it from the nearest of some nodes.
func steps(needs [][]int, from []int) []int {
	far := make([]int, len(needs))
	for u := range far {
		far[u] = unreached
	}
	layer := from
	for n := 0; len(layer) > 0; n++ {
		var next []int
		for _, u := range layer {
			if far[u] == unreached {
				far[u] = n
				next = append(next, needs[u]...)
			}
		}
		layer = next
	}
	return far
}

// leastAt tells the least of some nodes, of those that are so far.
func leastAt(nodes, far []int, n int) int {
	least := len(far)
	for _, u := range nodes {
		if far[u] == n {
			least = min(least, u)
		}
	}
	return least
}

// ordered tells all nodes that no knot keeps back: again and again the least one whose needs all have been told.
func ordered(needs [][]int) []int {
	users := turned(needs)
	// Counted by users, who have no doubles, so that an edge that stands several times is waited for once.
	waiting := make([]int, len(needs))
	for _, u := range edges(users) {
		waiting[u]++
	}
	free := &queue{}
	for u, n := range waiting {
		if n == 0 {
			heap.Push(free, u)
		}
	}
	list := make([]int, 0, len(needs))
	for free.Len() > 0 {
		u := heap.Pop(free).(int)
		list = append(list, u)
		for _, user := range users[u] {
			waiting[user]--
			if waiting[user] == 0 {
				heap.Push(free, user)
			}
		}
	}
	return list
}

// queue is a heap of nodes, of which the least comes first.
type queue struct{ sort.IntSlice }

func (q *queue) Push(x any) { q.IntSlice = append(q.IntSlice, x.(int)) }

func (q *queue) Pop() any {
	last := len(q.IntSlice) - 1
	u := q.IntSlice[last]
	q.IntSlice = q.IntSlice[:last]
	return u
}
