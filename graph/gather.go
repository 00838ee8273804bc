package graph

import "iter"

// gathered tells for each of n keys the things that stand with it, in their order; what stands there several times on end is told once.
func gathered[T comparable, K ~int](n int, pairs iter.Seq2[T, K]) [][]T {
	lists := make([][]T, n)
	for thing, key := range pairs {
		list := lists[key]
		if len(list) == 0 || list[len(list)-1] != thing {
			lists[key] = append(list, thing)
		}
	}
	return lists
}

// numbered tells of each key its number, and how many there are: keys count in the order in which they first come.
func numbered[K comparable](keys []K) ([]int, int) {
	list := make([]int, len(keys))
	numbers := make(map[K]int)
	for i, key := range keys {
		if _, known := numbers[key]; !known {
			numbers[key] = len(numbers)
		}
		list[i] = numbers[key]
	}
	return list, len(numbers)
}

// edges goes through a graph's edges: by the nodes that need, rising, and the needed ones as they stand there.
func edges(needs [][]int) iter.Seq2[int, int] {
	return func(yield func(int, int) bool) {
		for u, list := range needs {
			for _, v := range list {
				if !yield(u, v) {
					return
				}
			}
		}
	}
}

// turned tells the graph with its edges turned about. Its lists rise and have no doubles, whatever the given ones have, since edges has the nodes that need rising.
func turned(needs [][]int) [][]int { return gathered(len(needs), edges(needs)) }
