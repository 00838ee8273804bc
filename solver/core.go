package solver

import "larder/api"

// fewest tells the numbers of clauses, of some that have no model, of which none can be left out any more.
func fewest(n int, clauses [][]int, budget int) []int {
	left := make([]int, len(clauses))
	for i := range left {
		left[i] = i
	}
	needed := make([]bool, len(clauses))
	for fewer := true; fewer; {
		fewer = false
		for _, number := range left {
			// What is left gets fewer, so a model that was found without a clause is one for good.
			if needed[number] {
				continue
			}
			rest := without(left, number)
			switch find(n, chosen(clauses, rest), nil, budget).Verdict {
			case api.Unsat:
				left, fewer = rest, true
			case api.Sat:
				needed[number] = true
			}
		}
	}
	return left
}

// without tells a new list of the numbers but one.
func without(numbers []int, one int) []int {
	var rest []int
	for _, number := range numbers {
		if number != one {
			rest = append(rest, number)
		}
	}
	return rest
}

// chosen tells the clauses that have these numbers.
func chosen(clauses [][]int, numbers []int) [][]int {
	list := make([][]int, len(numbers))
	for i, number := range numbers {
		list[i] = clauses[number]
	}
	return list
}
