package solver_test

import (
	"math/rand/v2"
	"slices"
	"testing"

	"larder/api"
	"larder/samples"
	"larder/solver"
)

// pick tells the problem of the clauses that have these numbers, without prefer.
func (p problem) pick(numbers []int) problem {
	q := problem{n: p.n}
	for _, number := range numbers {
		q.clauses = append(q.clauses, p.clauses[number])
	}
	return q
}

// verdict tells the verdict over the clauses that have these numbers.
func (p problem) verdict(numbers []int, budget int) int {
	return p.pick(numbers).search().within(budget).Verdict
}

// drop tells the numbers but the one at a place.
func drop(numbers []int, place int) []int {
	return slices.Delete(slices.Clone(numbers), place, place+1)
}

// core tells the chapter's core, and how many rounds left something out.
func (p problem) core(budget int) (left []int, verdict, rounds int) {
	for i := range p.clauses {
		left = append(left, i)
	}
	if verdict = p.verdict(left, budget); verdict != api.Unsat {
		return nil, verdict, 0
	}
	for {
		before := len(left)
		for place := 0; place < len(left); {
			if p.verdict(drop(left, place), budget) == api.Unsat {
				left = drop(left, place)
			} else {
				place++
			}
		}
		if len(left) == before {
			return left, verdict, rounds
		}
		rounds++
	}
}

// holdCore holds what Core answers against the chapter's words, and tells how many rounds left something out.
func (p problem) holdCore(t *testing.T, budget int) int {
	t.Helper()
	want, verdict, rounds := p.core(budget)
	got, gotVerdict, e := solver.Core(p.n, p.clauses, budget)
	if e != api.OK || gotVerdict != verdict || !slices.Equal(got, want) {
		t.Fatalf("P9.3: Core(%d, %v, %d) = %v, %d, %d, want %v, %d", p.n, p.clauses, budget, got, gotVerdict, e, want, verdict)
	}
	if verdict == api.Unsat {
		p.holdFewest(t, got, budget)
	}
	return rounds
}

// holdFewest holds that clauses have no model together, and that with one fewer Solve does not say so.
func (p problem) holdFewest(t *testing.T, numbers []int, budget int) {
	t.Helper()
	if models := p.pick(numbers).models(t); len(models) > 0 || !slices.IsSorted(numbers) {
		t.Fatalf("P9.3: %v: the core %v has %d models", p, numbers, len(models))
	}
	for place := range numbers {
		if f := p.pick(drop(numbers, place)).solve(t, budget); f.Verdict == api.Unsat {
			t.Fatalf("P9.3: %v: the core %v can do without %d", p, numbers, numbers[place])
		}
	}
}

// P9.3: the document's example, and what stands at the edges.
func TestCore(t *testing.T) {
	knot := lists{{1, 2}, {-1, 2}, {1, -2}, {-1, -2}}
	for _, c := range []struct {
		what    string
		n       int
		clauses lists
		budget  int
		want    []int
		verdict int
	}{
		{"example 5", 1, lists{{1}, {1}, {-1}}, 100, []int{1, 2}, api.Unsat},
		{"no clauses", 1, nil, 0, nil, api.Sat},
		{"no variables", 0, nil, api.MaxBudget, nil, api.Sat},
		{"a model", 2, lists{{1}, {-1, 2}}, 100, nil, api.Sat},
		{"a clause without literals", 0, lists{{}}, 1, []int{0}, api.Unsat},
		{"no look", 0, lists{{}}, 0, nil, api.Spent},
		{"two without literals: the last is left", 2, lists{{1, 2}, {}, {-1}, {}, {2}}, 100, []int{3}, api.Unsat},
		{"all are needed", 2, knot, 100, []int{0, 1, 2, 3}, api.Unsat},
		{"with a budget of its steps", 2, knot, 19, []int{0, 1, 2, 3}, api.Unsat},
		{"with one fewer", 2, knot, 18, nil, api.Spent},
		{"the last ones are left", 2, append(slices.Clone(knot), knot...), 100, []int{4, 5, 6, 7}, api.Unsat},
		{"one is not of it", 3, lists{{1}, {2, 3}, {-1}, {3}}, 100, []int{0, 2}, api.Unsat},
		{"two ways: the later one is left", 2, lists{{1}, {2}, {-1}, {-2}}, 100, []int{1, 3}, api.Unsat},
		{"the first is left out in the second round, when there are looks enough", 2, lists{{1}, {1, 2}, {-1}, {2}, {-2}}, 9, []int{3, 4}, api.Unsat},
		{"opposites are not of it", 2, lists{{1, -1}, {2, 2}, {-2, -2}, {2, -2}}, 100, []int{1, 2}, api.Unsat},
	} {
		list, verdict, e := solver.Core(c.n, c.clauses, c.budget)
		if e != api.OK || verdict != c.verdict || !slices.Equal(list, c.want) {
			t.Errorf("P9.3: %s: %v, %d, %d, want %v, %d", c.what, list, verdict, e, c.want, c.verdict)
		}
	}
}

// P9.3: all small problems, with few looks and with enough.
func TestSmallCores(t *testing.T) {
	for _, c := range []struct{ n, wide, clauses int }{{0, 1, 3}, {1, 2, 4}, {2, 1, 5}, {2, 2, 3}} {
		for _, clauses := range samples.Lists(samples.Lists(signed(c.n), c.wide), c.clauses) {
			p := problem{n: c.n, clauses: clauses}
			steps := p.search().Steps
			for _, budget := range []int{0, max(steps-1, 0), steps, steps + 2, api.MaxBudget} {
				p.holdCore(t, budget)
			}
		}
	}
}

// P9.3: mixed problems; each search has the budget for itself, so that what was kept for want of looks may be left out in a later round.
func TestMixedCores(t *testing.T) {
	r := rand.New(rand.NewPCG(9, 3))
	later := 0
	for range 1500 {
		n := 2 + r.IntN(4)
		p := mixed(r, n, 3*n+r.IntN(8), 2, 8)
		p.prefer = nil
		f := p.search()
		for _, budget := range []int{f.Steps, f.Steps + r.IntN(10), api.MaxBudget} {
			if p.holdCore(t, budget) > 1 {
				later++
			}
		}
	}
	if later < 5 {
		t.Errorf("the mixture is no good: %d later rounds leave something out", later)
	}
}

// P9.3: a core of many clauses, each ahead of one that is not of it.
func TestLargeCore(t *testing.T) {
	p := pigeons(3)
	var clauses lists
	var of []int
	for i, clause := range p.clauses {
		of = append(of, 2*i)
		clauses = append(clauses, clause, []int{api.MaxUniverse - i, -1})
	}
	list, verdict, e := solver.Core(api.MaxUniverse, clauses, api.MaxBudget)
	if e != api.OK || verdict != api.Unsat || !slices.Equal(list, of) {
		t.Errorf("P9.3: %v, %d, %d, want %v", list, verdict, e, of)
	}
}
