package solver_test

import (
	"slices"
	"testing"

	"larder/api"
	"larder/solver"
)

// lists is a short way to write clauses.
type lists = [][]int

// P9.1: the document's examples, and what stands at the edges, looks and all.
func TestExamples(t *testing.T) {
	knot := lists{{1, 2}, {-1, 2}, {1, -2}, {-1, -2}}
	for _, c := range []struct {
		what    string
		problem problem
		verdict int
		values  []bool
		steps   int
	}{
		{"example 1", problem{1, lists{{1}, {-1}}, nil}, api.Unsat, nil, 4},
		{"example 2, it does not press", problem{2, lists{{-1, 2}}, nil}, api.Sat, []bool{false, false}, 1},
		{"example 2, with prefer", problem{2, lists{{1, 2}}, []int{-1}}, api.Sat, []bool{false, true}, 3},
		{"example 3, no clauses", problem{3, nil, nil}, api.Sat, []bool{false, false, false}, 0},
		{"example 3, a clause without literals", problem{0, lists{{}}, nil}, api.Unsat, nil, 1},
		{"example 4", problem{2, knot, nil}, api.Unsat, nil, 19},
		{"nothing at all", problem{0, nil, nil}, api.Sat, nil, 0},
		{"it presses", problem{2, lists{{2, 1}}, nil}, api.Sat, []bool{false, true}, 2},
		{"no clauses, with prefer", problem{3, nil, []int{2, -3}}, api.Sat, []bool{false, true, false}, 0},
		{"a literal twice in prefer", problem{2, nil, []int{2, 2, 1}}, api.Sat, []bool{true, true}, 0},
		{"opposites in prefer: the first counts", problem{2, nil, []int{-1, 1, 2, -2}}, api.Sat, []bool{false, true}, 0},
		{"a literal twice is a unit", problem{2, lists{{2, 2}}, nil}, api.Sat, []bool{false, true}, 2},
		{"opposites are free and do not press", problem{2, lists{{1, -1}, {-2, 2}}, nil}, api.Sat, []bool{false, false}, 2},
		{"opposites and one that is open", problem{2, lists{{1, 2, -1}}, []int{-2}}, api.Sat, []bool{false, false}, 2},
		{"one clause thrice", problem{1, lists{{1}, {1}, {1}}, nil}, api.Sat, []bool{true}, 6},
		{"a clause without literals ends each scan", problem{1, lists{{1}, {}, {-1}}, nil}, api.Unsat, nil, 2},
		{"a false one behind a unit", problem{2, lists{{2}, {1}, {-1}}, nil}, api.Unsat, nil, 9},
		{"the first unit is made true first", problem{3, lists{{3}, {-3, 1}, {-1}}, nil}, api.Unsat, nil, 9},
		{"what is forced comes ahead of prefer", problem{2, lists{{-2, 1}, {2}}, []int{-1}}, api.Sat, []bool{true, true}, 6},
		{"prefer comes ahead of what presses", problem{3, lists{{1, 2}, {2, 3}}, []int{3}}, api.Sat, []bool{true, false, true}, 6},
		{"the first that presses, its first open literal", problem{4, lists{{-1, 2}, {4, 3}, {2, 1}}, []int{-4}}, api.Sat, []bool{false, true, true, false}, 12},
		{"a false literal does not press", problem{3, lists{{-1, 2, 3}}, []int{1}}, api.Sat, []bool{true, true, false}, 3},
		{"back from what was pressed for, prefer stays", problem{4, lists{{2, 3}, {-2, 4}, {-2, -4}}, []int{1}}, api.Sat, []bool{true, false, true, false}, 18},
		{"back into prefer, and along it anew", problem{3, lists{{-1, 3}, {-1, -3}}, []int{2, 1}}, api.Sat, []bool{false, true, false}, 10},
		{"back behind prefer's second literal", problem{3, lists{{-1, -2, 3}, {-1, -2, -3}}, []int{1, 2, 3}}, api.Sat, []bool{true, false, true}, 12},
	} {
		for _, budget := range []int{c.steps, c.steps + 1, api.MaxBudget} {
			want := api.Found{Verdict: c.verdict, Values: c.values, Steps: c.steps}
			if got := c.problem.solve(t, budget); !same(got, want) {
				t.Errorf("P9.1: %s: %v; %d: %+v, want %+v", c.what, c.problem, budget, got, want)
			}
		}
		for budget := range c.steps {
			want := api.Found{Verdict: api.Spent, Steps: budget}
			if got := c.problem.solve(t, budget); !same(got, want) {
				t.Errorf("P9.4: %s: %v; %d: %+v, want %+v", c.what, c.problem, budget, got, want)
			}
		}
	}
}

// refused holds that all three calls answer an error and nothing else.
func refused(t *testing.T, what string, n int, clauses lists, prefer []int, budget int, want api.Errno) {
	t.Helper()
	if f, e := solver.Solve(n, clauses, prefer, budget); e != want || f.Verdict != 0 || len(f.Values) != 0 || f.Steps != 0 {
		t.Errorf("P9.1: %s: Solve = %+v, %d, want %d", what, f, e, want)
	}
	if len(prefer) > 0 {
		return
	}
	if list, verdict, e := solver.Core(n, clauses, budget); e != want || verdict != 0 || len(list) != 0 {
		t.Errorf("P9.3: %s: Core = %v, %d, %d, want %d", what, list, verdict, e, want)
	}
}

const leastInt, mostInt = -1 << 63, 1<<63 - 1

// P9.1, P9.3: numbers of variables and budgets that may not be, whatever else is wrong.
func TestWrongNumbers(t *testing.T) {
	for _, clauses := range []lists{nil, {{1}}, {{}}, {{0}}, {{1, api.MaxUniverse + 1}}} {
		for _, prefer := range [][]int{nil, {1}, {0}} {
			for _, n := range []int{leastInt, -1, api.MaxUniverse + 1, mostInt} {
				refused(t, "n", n, clauses, prefer, 9, api.ErrArg)
				refused(t, "n and budget", n, clauses, prefer, -1, api.ErrArg)
			}
			for _, budget := range []int{leastInt, -1, api.MaxBudget + 1, mostInt} {
				refused(t, "budget", 1, clauses, prefer, budget, api.ErrArg)
				refused(t, "budget of no variables", 0, clauses, prefer, budget, api.ErrArg)
			}
		}
	}
}

// P9.1, P9.2, P9.3: literals at the bounds and beyond, at all places of clauses and of prefer.
func TestLiterals(t *testing.T) {
	for _, n := range []int{0, 1, 2, 7, api.MaxUniverse} {
		for _, l := range []int{1, -1, n, -n, n + 1, -(n + 1), n + 2, 0, leastInt, leastInt + 1, mostInt} {
			right := l != 0 && l >= -n && l <= n
			holdLiteral(t, n, l, right)
		}
	}
}

// holdLiteral holds whether a literal of n variables is taken, wherever it stands.
func holdLiteral(t *testing.T, n, l int, right bool) {
	t.Helper()
	clauses := []lists{{{l}}, {{l, l}}, {{}, {l}}, {{l}, {}}}
	prefers := [][]int{{l}, {l, l}}
	if n > 0 {
		clauses = append(clauses, lists{{n, l}, {1}}, lists{{1}, {-n, l}}, lists{{1}, {-1}, {1, l, -n}})
		prefers = append(prefers, []int{1, l}, []int{l, -n})
	}
	for _, c := range clauses {
		if !right {
			refused(t, "a clause's literal", n, c, nil, 0, api.ErrSatLit)
			refused(t, "a clause's literal, and prefer's", n, c, []int{0}, api.MaxBudget, api.ErrSatLit)
		}
		holdTaken(t, n, c, right)
	}
	for _, prefer := range prefers {
		if f, e := solver.Solve(n, nil, prefer, 0); (e == api.OK) != right || !right && (e != api.ErrSatLit || f.Verdict != 0 || len(f.Values) != 0) {
			t.Errorf("P9.1: n %d, prefer %v: %d, %d", n, prefer, f.Verdict, e)
		}
	}
}

// holdTaken holds whether Solve, Holds and Core take clauses or answer ErrSatLit.
func holdTaken(t *testing.T, n int, clauses lists, right bool) {
	t.Helper()
	want := api.ErrSatLit
	if right {
		want = api.OK
	}
	if f, e := solver.Solve(n, clauses, nil, 99); e != want || (f.Verdict != 0) != right {
		t.Errorf("P9.1: n %d: Solve(%v) = %d, %d", n, clauses, f.Verdict, e)
	}
	if place, e := solver.Holds(n, clauses, make([]bool, n)); e != want || !right && place != 0 {
		t.Errorf("P9.2: n %d: Holds(%v) = %d, %d", n, clauses, place, e)
	}
	if list, verdict, e := solver.Core(n, clauses, 99); e != want || (verdict != 0) != right || !right && len(list) != 0 {
		t.Errorf("P9.3: n %d: Core(%v) = %v, %d, %d", n, clauses, list, verdict, e)
	}
}

// P9.2: Holds, and what it refuses.
func TestHolds(t *testing.T) {
	large := make([]bool, api.MaxUniverse+1)
	large[api.MaxUniverse-1] = true
	for _, c := range []struct {
		n       int
		clauses lists
		values  []bool
		want    int
		e       api.Errno
	}{
		{0, nil, nil, -1, api.OK},
		{0, nil, []bool{}, -1, api.OK},
		{0, lists{{}}, nil, 0, api.OK},
		{2, nil, []bool{true, false}, -1, api.OK},
		{2, lists{{1, 2}, {-1}}, []bool{false, true}, -1, api.OK},
		{2, lists{{1, 2}, {-1}}, []bool{true, true}, 1, api.OK},
		{2, lists{{2}, {1, 2}, {-1}}, []bool{true, false}, 0, api.OK},
		{2, lists{{1, 2}, {}, {-1}}, []bool{true, true}, 1, api.OK},
		{2, lists{{1, 1}, {2, -2}}, []bool{true, false}, -1, api.OK},
		{api.MaxUniverse, lists{{api.MaxUniverse}, {-1}, {1, -api.MaxUniverse}}, large[:api.MaxUniverse], 2, api.OK},
		{2, nil, nil, 0, api.ErrArg},
		{2, nil, []bool{true}, 0, api.ErrArg},
		{2, nil, []bool{true, true, true}, 0, api.ErrArg},
		{2, lists{{2}, {3}}, []bool{false, false, true}, 0, api.ErrArg},
		{0, nil, []bool{false}, 0, api.ErrArg},
		{-1, nil, nil, 0, api.ErrArg},
		{-1, lists{{0}}, nil, 0, api.ErrArg},
		{leastInt, nil, nil, 0, api.ErrArg},
		{api.MaxUniverse + 1, nil, large, 0, api.ErrArg},
		{api.MaxUniverse, nil, large, 0, api.ErrArg},
		{1, lists{{2}}, []bool{true}, 0, api.ErrSatLit},
		{1, lists{{-1}, {1, -2}}, []bool{true}, 0, api.ErrSatLit},
		{1, lists{{1, 0}}, []bool{true}, 0, api.ErrSatLit},
	} {
		if got, e := solver.Holds(c.n, c.clauses, c.values); got != c.want || e != c.e {
			t.Errorf("P9.2: Holds(%d, %v, %d values) = %d, %d, want %d, %d", c.n, c.clauses, len(c.values), got, e, c.want, c.e)
		}
	}
}

// rising tells the numbers from 1 to n.
func rising(n int) []int {
	list := make([]int, n)
	for i := range list {
		list[i] = i + 1
	}
	return list
}

// P9.1: MaxUniverse variables.
func TestLarge(t *testing.T) {
	const n = api.MaxUniverse
	prefer := rising(n)
	chain := lists{{n, n - 1}, {-n, -(n - 1)}}
	for _, c := range []struct {
		what    string
		problem problem
		budget  int
		verdict int
		steps   int
		trues   int
	}{
		{"nothing asked", problem{n, nil, nil}, 0, api.Sat, 0, 0},
		{"all liked", problem{n, nil, prefer}, 0, api.Sat, 0, n},
		{"one that is pressed for", problem{n, lists{{n, 1}}, nil}, 2, api.Sat, 2, 1},
		// A scan at first, one behind each of n - 1 decisions and one behind what is forced.
		{"all liked that may be", problem{n, chain, prefer}, api.MaxBudget, api.Sat, 2 * (n + 1), n - 1},
		{"a wide clause", problem{n, lists{prefer}, nil}, 9, api.Sat, 2, 1},
	} {
		got := c.problem.solve(t, c.budget)
		trues := 0
		for _, value := range got.Values {
			if value {
				trues++
			}
		}
		if got.Verdict != c.verdict || got.Steps != c.steps || len(got.Values) != n || trues != c.trues {
			t.Errorf("P9.1: %s: %d, %d values, %d true, %d steps", c.what, got.Verdict, len(got.Values), trues, got.Steps)
		}
	}
	// As many decisions as may be, and back from them again and again.
	knot := lists{{n, n - 1}, {n, -(n - 1)}, {-n, n - 1}, {-n, -(n - 1)}}
	const budget = 3_000_000
	if got := (problem{n, knot, prefer[:n-2]}).solve(t, budget); !same(got, api.Found{Verdict: api.Spent, Steps: budget}) {
		t.Errorf("P9.4: a knot behind MaxUniverse decisions: %d, %d steps", got.Verdict, got.Steps)
	}
}

// P9.1: what is asked twice is answered alike.
func TestAgain(t *testing.T) {
	p := problem{3, lists{{1, 2}, {-1, 3}, {-2, -3}}, []int{2}}
	first := p.solve(t, 99)
	p.solve(t, 2)
	if second := p.solve(t, 99); !same(first, second) || !slices.Equal(first.Values, []bool{false, true, false}) {
		t.Errorf("P9.1: %+v, then %+v", first, second)
	}
}
