package front_test

import (
	"fmt"
	"math/rand/v2"
	"slices"
	"testing"

	"larder/api"
	"larder/debver"
	"larder/front"
	"larder/index"
	"larder/installed"
	"larder/order"
	"larder/resolve"
	"larder/samples"
	"larder/store"
)

// fits tells whether a package is of an atom's name, with a version that fits.
func fits(a api.Atom, p api.Package) bool {
	if p.Name != a.Name {
		return false
	}
	if a.Op == api.OpAny {
		return true
	}
	c := samples.Must(debver.Compare(p.Version, a.Version))
	return [6]bool{api.OpLess: c < 0, api.OpAtMost: c <= 0, api.OpEqual: c == 0, api.OpAtLeast: c >= 0, api.OpMore: c > 0}[a.Op]
}

// serves tells whether a package is a satisfier of an atom.
func serves(a api.Atom, p api.Package) bool {
	return fits(a, p) || a.Op == api.OpAny && slices.Contains(p.Provides, a.Name)
}

// served tells whether one of some packages, but one at a place, meets a clause.
func served(set []api.Package, but int, c api.Clause) bool {
	for i, p := range set {
		for _, a := range c {
			if i != but && serves(a, p) {
				return true
			}
		}
	}
	return false
}

// isWhole tells whether a set is Valid, as the document's words have it.
func isWhole(set []api.Package) bool {
	names, paths := map[string]int{}, map[string]int{}
	for i, p := range set {
		names[p.Name]++
		for _, f := range p.Files {
			paths[f.Path]++
			if paths[f.Path] > 1 {
				return false
			}
		}
		for _, c := range p.Depends {
			if !served(set, -1, c) {
				return false
			}
		}
		for _, c := range p.PreDepends {
			if !served(set, i, c) {
				return false
			}
		}
		for j, other := range set {
			for _, a := range p.Conflicts {
				if i != j && serves(a, other) {
					return false
				}
			}
		}
	}
	return len(names) == len(set)
}

// isAsked tells whether a set has what a request asks, over what was held ahead: P0.3.
func isAsked(set []api.Package, held []api.Held, r api.Request) bool {
	has := func(is func(p api.Package) bool) bool { return slices.ContainsFunc(set, is) }
	for _, w := range r.Wishes {
		switch w.Kind {
		case api.WishInstall:
			if !has(func(p api.Package) bool { return serves(w.Atom, p) }) {
				return false
			}
		case api.WishRemove:
			if has(func(p api.Package) bool { return fits(w.Atom, p) }) {
				return false
			}
		case api.WishUpgrade:
			for _, h := range held {
				removed := slices.ContainsFunc(r.Wishes, func(w api.Wish) bool { return w.Kind == api.WishRemove && w.Atom.Name == h.Name })
				if !removed && !has(func(p api.Package) bool { return p.Name == h.Name }) {
					return false
				}
			}
		}
	}
	for _, name := range r.Holds {
		for _, h := range held {
			if h.Name == name && !has(func(p api.Package) bool { return p.Name == name && p.Version == h.Version }) {
				return false
			}
		}
	}
	return true
}

// canBe tells whether some set of a universe is whole and has what a request asks.
func canBe(u []api.Package, held []api.Held, r api.Request) bool {
	for bits := range 1 << len(u) {
		var set []api.Package
		for i, p := range u {
			if bits>>i&1 == 1 {
				set = append(set, p)
			}
		}
		if isAsked(set, held, r) && isWhole(set) {
			return true
		}
	}
	return false
}

// TestWhole holds the promises of the whole, told by brute force, over small universes.
func TestWhole(t *testing.T) {
	t.Parallel()
	names := []string{"aa", "bb", "cc", "dd"}
	counts := map[string]int{}
	for seed := range uint64(2000) {
		r := rand.New(rand.NewPCG(seed, 71))
		d := samples.Must(store.New(room))
		f := samples.Must(front.Open(d))
		var archives []api.Blob
		for range 4 {
			s, request := mixedShelf(r, names, 5), mixedRequest(r, names)
			if seed%2 == 0 {
				s, request = mixedRelease(r, names), asks(pick(r, "upgrade", "upgrade; install dd", "install dd", "install cc; install bb", "remove bb; upgrade", "remove dd(<<2)", "install dd(>=2)"))
			}
			archives = slices.Concat(s.archives, archives)
			holdRequest(t, r, f, d, s, request, archives, counts)
		}
	}
	for _, what := range []string{"answer 1", "answer 3", "answer 4", "answer 5", "answer 7", "answer 9", "batches 1", "batches 3", "displacing", "knot", "pre", "again 1", "undone 1"} {
		if counts[what] < 5 {
			t.Errorf("%s: %d times", what, counts[what])
		}
	}
}

// holdRequest lets an installer carry a request out, and holds all that is promised of it.
func holdRequest(t *testing.T, r *rand.Rand, f *front.Front, d *store.Store, s shelf, request api.Request, archives []api.Blob, counts map[string]int) {
	t.Helper()
	held := f.Query()
	u := samples.Must(index.Universe(installed.Packages(s.held), held))
	clauses, _ := resolve.Clauses(u, held, request)
	enough := r.IntN(2) == 0 && request.Budget >= 0
	if enough {
		request.Budget = 2 << len(u) * max(len(clauses), 1)
	}
	target, _, _ := resolve.Target(u, held, request)
	ahead := samples.Told(d)
	batches, planned := f.Plan(s.index, request)
	o := f.Apply(s.index, request, archives)
	counts[fmt.Sprint("answer ", o.Answer)]++
	may := canBe(u, held, request)
	p := pair{f: f, d: d}
	p.holdAnswer(t, o, ahead)
	p.whole(t, "Apply")
	switch {
	case o.Answer == api.AnswerUnsat && may:
		t.Fatalf("P0.7: %s, %+v: Unsat", s.index, request)
	case may && enough && (o.Answer == api.AnswerUnsat || o.Answer == api.AnswerBudget):
		t.Fatalf("P0.8: %s, %+v: %+v", s.index, request, o)
	case o.Answer == api.AnswerCycle:
		if set := packagesAt(u, target); !isKnotted(set) {
			t.Fatalf("P0.11: %v: Cycle", set)
		}
	case o.Answer == api.AnswerOk:
		if now := installed.Packages(f.Query()); !may || !isAsked(now, held, request) || !isWhole(now) {
			t.Fatalf("P0.3: %s, %+v: %s", s.index, request, states(f.Query()))
		}
		if planned != (api.Outcome{Answer: api.AnswerOk, Planned: o.Planned}) {
			t.Fatalf("P23.6: Plan = %+v, and Apply %+v", planned, o)
		}
		counts[fmt.Sprint("batches ", len(batches))]++
		holdBatches(t, installed.Packages(held), installed.Packages(f.Query()), batches, counts)
		holdAgain(t, f, d, s, request, counts)
		if o.Done > 0 {
			holdUndone(t, f, d, held, archives, r.IntN(2) == 0, counts)
		}
	}
}

func packagesAt(u []api.Package, places []int) []api.Package {
	var list []api.Package
	for _, i := range places {
		list = append(list, u[i])
	}
	return list
}

// firstServer tells the place of the first satisfier of a clause in a set, but the one at a place: by the clause's alternatives, then by names; -1: there is none.
func firstServer(set []api.Package, but int, c api.Clause) int {
	for _, a := range c {
		for i, p := range set {
			if i != but && serves(a, p) {
				return i
			}
		}
	}
	return -1
}

// isKnotted tells whether a Pre-Depends of a set, by rising names, lies in a cycle of its Depends and Pre-Depends, by first satisfiers.
func isKnotted(set []api.Package) bool {
	leans := make([][]int, len(set))
	type edge struct{ from, to int }
	var pres []edge
	for i, p := range set {
		for _, c := range p.Depends {
			leans[i] = append(leans[i], firstServer(set, -1, c))
		}
		for _, c := range p.PreDepends {
			to := firstServer(set, i, c)
			leans[i] = append(leans[i], to)
			pres = append(pres, edge{i, to})
		}
	}
	return slices.ContainsFunc(pres, func(e edge) bool { return reaches(leans, e.to, e.from) })
}

// reaches tells whether a way of edges leads from a place to another.
func reaches(edges [][]int, from, to int) bool {
	seen, queue := map[int]int{from: 1}, []int{from}
	for len(queue) > 0 {
		place := queue[0]
		queue = queue[1:]
		if place == to {
			return true
		}
		for _, next := range edges[place] {
			if seen[next] == 0 {
				seen[next] = 1
				queue = append(queue, next)
			}
		}
	}
	return false
}

// holdBatches holds P0.9 and P0.10 of batches that lead from a state to a target.
func holdBatches(t *testing.T, state, target []api.Package, batches []api.Batch, counts map[string]int) {
	t.Helper()
	has := func(keys []api.Key, p api.Package) bool {
		return slices.Contains(keys, api.Key{Name: p.Name, Version: p.Version})
	}
	for _, b := range batches {
		names, edges, e := order.Graph(state, target)
		if e != api.OK {
			t.Fatalf("Graph = %d", e)
		}
		var stays, comes []api.Package
		for _, p := range state {
			if !has(b.Out, p) {
				stays = append(stays, p)
			}
		}
		for _, p := range target {
			if has(b.In, p) {
				comes = append(comes, p)
			}
		}
		for _, p := range comes {
			for _, c := range p.PreDepends {
				counts["pre"]++
				if !served(stays, -1, c) {
					t.Fatalf("P0.9: %v comes, and %v is not met by %v", p, c, stays)
				}
			}
		}
		if len(comes) > 0 {
			holdPart(t, names, edges, b, counts)
		} else if slices.ContainsFunc(target, func(p api.Package) bool {
			return slices.ContainsFunc(b.Out, func(k api.Key) bool { return k.Name == p.Name })
		}) {
			counts["displacing"]++
		}
		state = append(stays, comes...)
		slices.SortFunc(state, func(a, b api.Package) int { return slices.Compare([]byte(a.Name), []byte(b.Name)) })
		if !isWhole(state) {
			t.Fatalf("P0.2: behind a batch: %v", state)
		}
	}
}

// holdPart holds that a batch's names are a strongly connected part.
func holdPart(t *testing.T, names []string, edges [][]int, b api.Batch, counts map[string]int) {
	t.Helper()
	var part []int
	for i, name := range names {
		if slices.ContainsFunc(slices.Concat(b.Out, b.In), func(key api.Key) bool { return key.Name == name }) {
			part = append(part, i)
		}
	}
	if len(part) > 1 {
		counts["knot"]++
	}
	for i := range names {
		together := reaches(edges, part[0], i) && reaches(edges, i, part[0])
		if together != slices.Contains(part, i) {
			t.Fatalf("P0.10: %v is no part of %v, %v", b, names, edges)
		}
	}
}

// holdAgain holds P0.14: the same request at once, behind Ok.
func holdAgain(t *testing.T, f *front.Front, d *store.Store, s shelf, r api.Request, counts map[string]int) {
	t.Helper()
	upgrades := slices.ContainsFunc(r.Wishes, func(w api.Wish) bool { return w.Kind == api.WishUpgrade })
	ahead, was := samples.Told(d), states(f.Query())
	if upgrades {
		return
	}
	o := f.Apply(s.index, r, nil)
	counts[fmt.Sprint("again ", o.Answer)]++
	if samples.Told(d) != ahead || states(f.Query()) != was || o != ok(0) && o.Answer != api.AnswerBudget {
		t.Fatalf("P0.14: %s, %+v again: %+v", s.index, r, o)
	}
}

// holdUndone holds P0.15: there, back, and, if that is asked, there again.
func holdUndone(t *testing.T, f *front.Front, d *store.Store, held []api.Held, archives []api.Blob, again bool, counts map[string]int) {
	t.Helper()
	behind := f.Query()
	p := pair{f: f, d: d}
	want := [][]api.Held{held, behind}
	if again {
		want = append(want, held)
	}
	for _, want := range want {
		o := f.Undo(matching(want, archives))
		counts[fmt.Sprint("undone ", o.Answer)]++
		p.whole(t, "Undo")
		if o.Answer == api.AnswerCycle {
			return
		}
		if o.Answer != api.AnswerOk || states(f.Query()) != states(want) {
			t.Fatalf("P0.15: Undo = %+v, %s, want %s", o, states(f.Query()), states(want))
		}
	}
}

// matching tells of archives those that packages have. (Other ones of the same names are left out.)
func matching(held []api.Held, archives []api.Blob) []api.Blob {
	var list []api.Blob
	for _, h := range held {
		for _, a := range archives {
			if a.Name == h.Archive && samples.File("", string(a.Data)).Sum == h.Sum {
				list = append(list, a)
				break
			}
		}
	}
	return list
}
