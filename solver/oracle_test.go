package solver_test

import (
	"fmt"
	"slices"
	"testing"

	"larder/api"
	"larder/solver"
)

// problem is what Solve is asked, but for the budget.
type problem struct {
	n       int
	clauses [][]int
	prefer  []int
}

func (p problem) String() string {
	return fmt.Sprintf("n %d, clauses %v, prefer %v", p.n, p.clauses, p.prefer)
}

// The chapter's words. An assignment is the list of the literals that are true by it.

func isTrue(a, clause []int) bool {
	return slices.ContainsFunc(clause, func(l int) bool { return slices.Contains(a, l) })
}

// openOf tells the literals of a clause whose variables have no values.
func openOf(a, clause []int) []int {
	var open []int
	for _, l := range clause {
		if !slices.Contains(a, l) && !slices.Contains(a, -l) {
			open = append(open, l)
		}
	}
	return open
}

func isFalse(a, clause []int) bool { return !isTrue(a, clause) && len(openOf(a, clause)) == 0 }

func isUnit(a, clause []int) bool {
	open := openOf(a, clause)
	return !isTrue(a, clause) && len(open) > 0 && slices.Min(open) == slices.Max(open)
}

func presses(a, clause []int) bool {
	return !isTrue(a, clause) && !isFalse(a, clause) && slices.Min(openOf(a, clause)) > 0
}

// oracle goes the search's way without a budget: what was made true in vain is forgotten as each call of try returns.
type oracle struct {
	problem
	steps int
	backs int
	liked []int // literals of prefer that were open when they came
	model []int // the assignment at the end
}

// try tells whether the search comes to Sat from an assignment, or has to go back behind it.
func (o *oracle) try(a []int) bool {
	for _, clause := range o.clauses {
		o.steps++
		if isFalse(a, clause) {
			return false
		}
	}
	for _, clause := range o.clauses {
		if isUnit(a, clause) {
			return o.try(with(a, openOf(a, clause)[0]))
		}
	}
	l := o.decision(a)
	if l == 0 {
		o.model = a
		return true
	}
	if o.try(with(a, l)) {
		return true
	}
	o.backs++
	return o.try(with(a, -l))
}

// decision tells the literal that is decided for; 0, if there is none.
func (o *oracle) decision(a []int) int {
	if open := openOf(a, o.prefer); len(open) > 0 {
		o.liked = append(o.liked, open[0])
		return open[0]
	}
	for _, clause := range o.clauses {
		if presses(a, clause) {
			return openOf(a, clause)[0]
		}
	}
	return 0
}

func with(a []int, l int) []int { return append(slices.Clone(a), l) }

// found is what the search comes to with any budget that is enough.
type found struct {
	api.Found
	backs int
	liked []int
}

func (p problem) search() found {
	o := &oracle{problem: p}
	f := found{Found: api.Found{Verdict: api.Unsat}}
	if o.try(nil) {
		f.Verdict, f.Values = api.Sat, make([]bool, p.n)
		for v := range f.Values {
			f.Values[v] = slices.Contains(o.model, v+1)
		}
	}
	f.Steps, f.backs, f.liked = o.steps, o.backs, o.liked
	return f
}

// within tells what is answered with a budget.
func (f found) within(budget int) api.Found {
	if f.Steps > budget {
		return api.Found{Verdict: api.Spent, Steps: budget}
	}
	return f.Found
}

// solve asks Solve, of a problem that may be.
func (p problem) solve(t *testing.T, budget int) api.Found {
	t.Helper()
	f, e := solver.Solve(p.n, p.clauses, p.prefer, budget)
	if e != api.OK {
		t.Fatalf("P9.1: Solve(%v; %d) = %d", p, budget, e)
	}
	return f
}

func same(a, b api.Found) bool {
	return a.Verdict == b.Verdict && a.Steps == b.Steps && slices.Equal(a.Values, b.Values)
}

// hold holds what Solve answers with all budgets up to a few hundred, and with those at the bounds.
func (p problem) hold(t *testing.T) found {
	t.Helper()
	want := p.search()
	budgets := []int{max(want.Steps-1, 0), want.Steps, want.Steps + 1, 2*want.Steps + 1, api.MaxBudget}
	for budget := range min(want.Steps, 300) {
		budgets = append(budgets, budget)
	}
	for _, budget := range budgets {
		if got := p.solve(t, budget); !same(got, want.within(budget)) {
			t.Fatalf("P9.1: Solve(%v; %d) = %+v, want %+v", p, budget, got, want.within(budget))
		}
	}
	return want
}

// allValues tells all 2^n lists of values.
func allValues(n int) [][]bool {
	list := make([][]bool, 1<<n)
	for i := range list {
		list[i] = make([]bool, n)
		for v := range n {
			list[i][v] = i>>v&1 == 1
		}
	}
	return list
}

// literals tells values as the literals that are true by them.
func literals(values []bool) []int {
	list := make([]int, len(values))
	for v, value := range values {
		list[v] = -(v + 1)
		if value {
			list[v] = v + 1
		}
	}
	return list
}

// firstBroken tells the first clause that is not true by values; -1, if there is none.
func (p problem) firstBroken(values []bool) int {
	return slices.IndexFunc(p.clauses, func(clause []int) bool { return !isTrue(literals(values), clause) })
}

// models tells all models, as Holds tells them, and holds that it tells them right.
func (p problem) models(t *testing.T) [][]bool {
	t.Helper()
	var list [][]bool
	for _, values := range allValues(p.n) {
		got, e := solver.Holds(p.n, p.clauses, values)
		if want := p.firstBroken(values); e != api.OK || got != want {
			t.Fatalf("P9.2: Holds(%v; %v) = %d, %d, want %d", p, values, got, e, want)
		}
		if got == -1 {
			list = append(list, values)
		}
	}
	return list
}
