package solver_test

import (
	"math/rand/v2"
	"slices"
	"testing"

	"larder/api"
	"larder/samples"
	"larder/solver"
)

// signed tells all literals of n variables.
func signed(n int) []int {
	var list []int
	for _, l := range rising(n) {
		list = append(list, l, -l)
	}
	return list
}

// mixed tells a problem of n variables: so many clauses, all but one in `odd` of them with `wide` literals, and a short prefer.
func mixed(r *rand.Rand, n, clauses, wide, odd int) problem {
	p := problem{n: n}
	all := signed(n)
	some := func(most int) []int {
		var list []int
		for range most {
			list = append(list, all[r.IntN(len(all))])
		}
		return list
	}
	for range clauses {
		size := wide
		if r.IntN(odd) == 0 {
			size = r.IntN(wide + 2)
		}
		p.clauses = append(p.clauses, some(size))
	}
	p.prefer = some(r.IntN(n + 2))
	return p
}

// holdRight holds P9.4 and P9.5 of what the search comes to, and tells the models.
func (p problem) holdRight(t *testing.T, f found) [][]bool {
	t.Helper()
	models := p.models(t)
	isModel := slices.ContainsFunc(models, func(values []bool) bool { return slices.Equal(values, f.Values) })
	if f.Verdict == api.Sat && !isModel || f.Verdict == api.Unsat && len(models) > 0 {
		t.Fatalf("P9.4: %v: %+v, of %d models", p, f, len(models))
	}
	enough := 1 << (p.n + 1) * len(p.clauses)
	if got := p.solve(t, enough); !same(got, f.Found) {
		t.Fatalf("P9.5: %v: with %d looks %+v", p, enough, got)
	}
	return models
}

// holdWanted holds P9.6: a model whose true literals are all that prefer has is the answer.
func (p problem) holdWanted(t *testing.T, models [][]bool) {
	t.Helper()
	for _, model := range models {
		p.prefer = slices.DeleteFunc(literals(model), func(l int) bool { return l < 0 })
		for range 2 {
			if got := p.solve(t, api.MaxBudget); got.Verdict != api.Sat || !slices.Equal(got.Values, model) {
				t.Fatalf("P9.6: %v: %+v, want %v", p, got, model)
			}
			slices.Reverse(p.prefer)
		}
	}
}

// holdLiking holds P9.7.
func (p problem) holdLiking(t *testing.T, f found, models [][]bool) {
	t.Helper()
	if f.Verdict != api.Sat {
		return
	}
	answer := literals(f.Values)
	for _, l := range f.liked {
		if f.backs == 0 && !slices.Contains(answer, l) {
			t.Fatalf("P9.7: %v: %v, without a step back, and %d was open", p, answer, l)
		}
	}
	likes := func(values []bool) bool { return containsAll(literals(values), p.prefer) }
	if slices.ContainsFunc(models, likes) && !likes(f.Values) {
		t.Fatalf("P9.7: %v: %v, where a model has all of prefer", p, answer)
	}
}

func containsAll(list, part []int) bool {
	return !slices.ContainsFunc(part, func(l int) bool { return !slices.Contains(list, l) })
}

// holdAll holds all that is promised of a problem.
func (p problem) holdAll(t *testing.T) found {
	t.Helper()
	f := p.hold(t)
	models := p.holdRight(t, f)
	p.holdWanted(t, models)
	p.holdLiking(t, f, models)
	return f
}

// P9.1, P9.2, P9.4 to P9.7: all small problems.
func TestSmall(t *testing.T) {
	for _, c := range []struct{ n, wide, clauses, liked int }{
		{0, 2, 3, 2},
		{1, 3, 2, 3},
		{1, 2, 4, 2},
		{2, 3, 2, 2},
		{2, 2, 3, 2},
		{3, 2, 2, 2},
	} {
		all := signed(c.n)
		for _, clauses := range samples.Lists(samples.Lists(all, c.wide), c.clauses) {
			for _, prefer := range samples.Lists(all, c.liked) {
				problem{c.n, clauses, prefer}.holdAll(t)
			}
		}
	}
}

// P9.1, P9.2, P9.4 to P9.7: mixed problems, many of them with steps back.
func TestMixed(t *testing.T) {
	r := rand.New(rand.NewPCG(9, 1))
	verdicts, backs := map[int]int{}, 0
	for range 1500 {
		n := 4 + r.IntN(6)
		wide := 3 + r.IntN(2)
		f := mixed(r, n, (5*wide-11)*n+r.IntN(n), wide, 100).holdAll(t)
		verdicts[f.Verdict]++
		if f.backs > 3 {
			backs++
		}
	}
	if verdicts[api.Sat] < 400 || verdicts[api.Unsat] < 400 || backs < 150 {
		t.Errorf("the mixture is no good: %v, %d with steps back", verdicts, backs)
	}
}

// pigeons tells clauses that no values make true: so many pigeons, one hole too few.
func pigeons(holes int) problem {
	p := problem{n: (holes + 1) * holes}
	at := func(pigeon, hole int) int { return pigeon*holes + hole + 1 }
	for pigeon := range holes + 1 {
		var somewhere []int
		for hole := range holes {
			somewhere = append(somewhere, at(pigeon, hole))
		}
		p.clauses = append(p.clauses, somewhere)
	}
	for hole := range holes {
		for pigeon := range holes + 1 {
			for other := range pigeon {
				p.clauses = append(p.clauses, []int{-at(other, hole), -at(pigeon, hole)})
			}
		}
	}
	return p
}

// P9.1, P9.4, P9.5: a long search without a model, and with one as soon as a pigeon may stay out.
func TestPigeons(t *testing.T) {
	for holes := 1; holes <= 4; holes++ {
		p := pigeons(holes)
		f := p.hold(t)
		if f.Verdict != api.Unsat || f.Steps > 1<<(p.n+1)*len(p.clauses) {
			t.Errorf("P9.4, P9.5: %d pigeons: %+v", holes+1, f.Found)
		}
		fewer := problem{p.n, p.clauses[1:], nil}
		if f := fewer.hold(t); f.Verdict != api.Sat || fewer.firstBroken(f.Values) != -1 {
			t.Errorf("P9.4: %d pigeons, of which one may stay out: %+v", holes+1, f.Found)
		}
	}
}

// P9.6: what nobody wants is not there, whatever else could be.
func TestUnwanted(t *testing.T) {
	// 2 wants 3, 3 wants 1; 1 and 4 exclude one another.
	clauses := lists{{-2, 3}, {-1, -4}, {-3, 1}}
	for _, c := range []struct {
		more   []int
		prefer []int
		want   []bool
	}{
		{[]int{-1, -4}, nil, []bool{false, false, false, false}},
		{[]int{-1, -4}, []int{1}, []bool{true, false, false, false}},
		{[]int{-1, -4}, []int{4}, []bool{false, false, false, true}},
		{[]int{-1, -4}, []int{2}, []bool{true, true, true, false}},
		{[]int{2, 4}, []int{1}, []bool{true, true, true, false}},
		{[]int{4, 2}, nil, []bool{false, false, false, true}},
		{[]int{4}, []int{1, 2, 3}, []bool{false, false, false, true}},
	} {
		got, e := solver.Solve(4, append(lists{c.more}, clauses...), c.prefer, 999)
		if e != api.OK || got.Verdict != api.Sat || !slices.Equal(got.Values, c.want) {
			t.Errorf("P9.6: with %v, prefer %v: %+v, %d, want %v", c.more, c.prefer, got, e, c.want)
		}
	}
}

// P9.7: prefer is given up only where it must be.
func TestLiked(t *testing.T) {
	for _, c := range []struct {
		clauses lists
		prefer  []int
		want    []bool
	}{
		// What is pressed for behind prefer is taken back first.
		{lists{{3, 4}, {-3, 5}, {-3, -5}}, []int{1, 2}, []bool{true, true, false, true, false}},
		{lists{{3, 4}, {-3, 5}, {-3, -5}}, []int{-1, 2, 5}, []bool{false, true, false, true, true}},
		// The last literal that stands in the way gives way.
		{lists{{-1, -2}}, []int{1, 2, 3}, []bool{true, false, true, false, false}},
		{lists{{-1, -2, 4}, {-1, -2, -4}}, []int{1, 2, 3}, []bool{true, false, true, false, false}},
		// The first gives way, if no other one does.
		{lists{{-1, 4}, {-1, 5, -4}, {-1, -5}}, []int{1, 2, 3}, []bool{false, true, true, false, false}},
	} {
		p := problem{5, c.clauses, c.prefer}
		if got := p.solve(t, api.MaxBudget); got.Verdict != api.Sat || !slices.Equal(got.Values, c.want) {
			t.Errorf("P9.7: %v: %+v, want %v", p, got, c.want)
		}
	}
}
