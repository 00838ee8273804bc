package graph_test

import (
	"slices"
	"testing"

	"larder/api"
	"larder/graph"
	"larder/samples"
)

// lists is a graph, or its parts.
type lists = [][]int

func same(a, b lists) bool { return slices.EqualFunc(a, b, slices.Equal) }

// The chapter's words, said of a graph.

func isNode(needs lists, u int) bool { return 0 <= u && u < len(needs) }

func isRight(needs lists) bool {
	for _, list := range needs {
		for _, v := range list {
			if !isNode(needs, v) {
				return false
			}
		}
	}
	return true
}

// words is a right graph with who reaches whom.
type words struct {
	needs   lists
	reaches [][]bool
}

func wordsOf(needs lists) words {
	w := words{needs: needs}
	for u := range needs {
		w.reaches = append(w.reaches, make([]bool, len(needs)))
		w.reaches[u][u] = true
		for _, v := range needs[u] {
			w.reaches[u][v] = true
		}
	}
	for by := range needs {
		for u := range needs {
			for v := range needs {
				w.reaches[u][v] = w.reaches[u][v] || w.reaches[u][by] && w.reaches[by][v]
			}
		}
	}
	return w
}

func (w words) needsOne(u, v int) bool { return slices.Contains(w.needs[u], v) }

// choose tells the nodes of which something is so, rising.
func (w words) choose(is func(u int) bool) []int {
	var list []int
	for u := range w.needs {
		if is(u) {
			list = append(list, u)
		}
	}
	return list
}

func (w words) parts() lists {
	var all lists
	for u := range w.needs {
		part := w.choose(func(v int) bool { return w.reaches[u][v] && w.reaches[v][u] })
		if part[0] == u {
			all = append(all, part)
		}
	}
	return all
}

func (w words) partOf() []int {
	parts := w.parts()
	var of []int
	for u := range w.needs {
		of = append(of, slices.IndexFunc(parts, func(part []int) bool { return slices.Contains(part, u) }))
	}
	return of
}

func (w words) condensed() lists {
	of := w.partOf()
	all := make(lists, len(w.parts()))
	for p := range all {
		for q := range all {
			needed := func(u int) bool {
				return of[u] == p && slices.ContainsFunc(w.needs[u], func(v int) bool { return of[v] == q })
			}
			if p != q && len(w.choose(needed)) > 0 {
				all[p] = append(all[p], q)
			}
		}
	}
	return all
}

// isKnot tells whether a part has an edge within.
func (w words) isKnot(part []int) bool { return len(part) > 1 || w.needsOne(part[0], part[0]) }

func (w words) order() ([]int, api.Errno) {
	if slices.ContainsFunc(w.parts(), w.isKnot) {
		return nil, api.ErrGraphKnot
	}
	var told []int
	for range w.needs {
		told = append(told, w.choose(func(u int) bool {
			waits := slices.ContainsFunc(w.needs[u], func(v int) bool { return !slices.Contains(told, v) })
			return !slices.Contains(told, u) && !waits
		})[0])
	}
	return told, api.OK
}

func (w words) sorted() lists {
	order, _ := wordsOf(w.condensed()).order()
	parts := w.parts()
	var all lists
	for _, p := range order {
		all = append(all, parts[p])
	}
	return all
}

func (w words) reach(from []int) ([]bool, api.Errno) {
	for _, u := range from {
		if !isNode(w.needs, u) {
			return nil, api.ErrGraph
		}
	}
	reached := make([]bool, len(w.needs))
	for v := range reached {
		reached[v] = slices.ContainsFunc(from, func(u int) bool { return w.reaches[u][v] })
	}
	return reached, api.OK
}

func (w words) cycle(u, v int) ([]int, api.Errno) {
	switch {
	case !isNode(w.needs, u) || !isNode(w.needs, v):
		return nil, api.ErrGraph
	case !w.needsOne(u, v) || !w.reaches[v][u]:
		return nil, api.ErrGraphWay
	case u == v:
		return []int{u}, api.OK
	}
	for length := 2; ; length++ {
		if list := w.closed([]int{u, v}, length); list != nil {
			return list, api.OK
		}
	}
}

// closed tells the least list of a length that begins so, in which each needs the next one and the last one the first.
func (w words) closed(begun []int, length int) []int {
	last := begun[len(begun)-1]
	if len(begun) == length {
		if w.needsOne(last, begun[0]) {
			return begun
		}
		return nil
	}
	for next := range w.needs {
		if w.needsOne(last, next) {
			if list := w.closed(append(slices.Clone(begun), next), length); list != nil {
				return list
			}
		}
	}
	return nil
}

func (w words) turned() lists {
	var all lists
	for v := range w.needs {
		all = append(all, w.choose(func(u int) bool { return w.needsOne(u, v) }))
	}
	return all
}

// hold holds all that is answered of a graph against the chapter's words, and tells how many parts and knots it has.
func hold(t *testing.T, needs lists) (parts, knots int) {
	t.Helper()
	if !isRight(needs) {
		holdRefused(t, needs)
		return 0, 0
	}
	w := wordsOf(needs)
	w.holdParts(t)
	w.holdOrder(t)
	w.holdReach(t)
	w.holdCycles(t)
	w.holdFollows(t)
	for _, part := range w.parts() {
		if parts++; w.isKnot(part) {
			knots++
		}
	}
	return parts, knots
}

// holdRefused holds that each call answers ErrGraph and nothing else.
func holdRefused(t *testing.T, needs lists) {
	t.Helper()
	refuse := func(what string, length int, e api.Errno) {
		t.Helper()
		if e != api.ErrGraph || length > 0 {
			t.Fatalf("P12.1 to P12.7: %s of %v, which is not right: %d items, %d", what, needs, length, e)
		}
	}
	for what, call := range map[string]func(lists) (lists, api.Errno){"Parts": graph.Parts, "Condense": graph.Condense, "Sorted": graph.Sorted, "Turned": graph.Turned} {
		got, e := call(needs)
		refuse(what, len(got), e)
	}
	for what, call := range map[string]func(lists) ([]int, api.Errno){"PartOf": graph.PartOf, "Order": graph.Order} {
		got, e := call(needs)
		refuse(what, len(got), e)
	}
	for u := -1; u <= len(needs); u++ {
		got, e := graph.Reach(needs, []int{u})
		refuse("Reach", len(got), e)
		for v := -1; v <= len(needs); v++ {
			got, e := graph.Cycle(needs, u, v)
			refuse("Cycle", len(got), e)
		}
	}
	got, e := graph.Reach(needs, nil)
	refuse("Reach", len(got), e)
}

func (w words) holdParts(t *testing.T) {
	t.Helper()
	if got, e := graph.Parts(w.needs); e != api.OK || !same(got, w.parts()) {
		t.Fatalf("P12.1: Parts(%v) = %v, %d, want %v", w.needs, got, e, w.parts())
	}
	if got, e := graph.PartOf(w.needs); e != api.OK || !slices.Equal(got, w.partOf()) {
		t.Fatalf("P12.1: PartOf(%v) = %v, %d, want %v", w.needs, got, e, w.partOf())
	}
	if got, e := graph.Condense(w.needs); e != api.OK || !same(got, w.condensed()) {
		t.Fatalf("P12.2: Condense(%v) = %v, %d, want %v", w.needs, got, e, w.condensed())
	}
	if got, e := graph.Turned(w.needs); e != api.OK || !same(got, w.turned()) {
		t.Fatalf("P12.7: Turned(%v) = %v, %d, want %v", w.needs, got, e, w.turned())
	}
}

func (w words) holdOrder(t *testing.T) {
	t.Helper()
	want, wantE := w.order()
	if got, e := graph.Order(w.needs); e != wantE || !slices.Equal(got, want) {
		t.Fatalf("P12.3: Order(%v) = %v, %d, want %v, %d", w.needs, got, e, want, wantE)
	}
	if got, e := graph.Sorted(w.needs); e != api.OK || !same(got, w.sorted()) {
		t.Fatalf("P12.4: Sorted(%v) = %v, %d, want %v", w.needs, got, e, w.sorted())
	}
}

// around tells the nodes and, on either side of them, one that is none.
func (w words) around() []int {
	var list []int
	for u := -1; u <= len(w.needs); u++ {
		list = append(list, u)
	}
	return list
}

func (w words) holdReach(t *testing.T) {
	t.Helper()
	for _, from := range samples.Lists(w.around(), 2) {
		want, wantE := w.reach(from)
		if got, e := graph.Reach(w.needs, from); e != wantE || !slices.Equal(got, want) {
			t.Fatalf("P12.5: Reach(%v, %v) = %v, %d, want %v, %d", w.needs, from, got, e, want, wantE)
		}
	}
}

func (w words) holdCycles(t *testing.T) {
	t.Helper()
	for _, u := range w.around() {
		for _, v := range w.around() {
			want, wantE := w.cycle(u, v)
			if got, e := graph.Cycle(w.needs, u, v); e != wantE || !slices.Equal(got, want) {
				t.Fatalf("P12.6: Cycle(%v, %d, %d) = %v, %d, want %v, %d", w.needs, u, v, got, e, want, wantE)
			}
		}
	}
}

// holdFollows holds P12.8, and what P12.2 and P12.7 say besides, of the answers alone.
func (w words) holdFollows(t *testing.T) {
	t.Helper()
	parts, _ := graph.Parts(w.needs)
	knotted := slices.ContainsFunc(parts, w.isKnot)
	if _, e := graph.Order(w.needs); (e == api.OK) == knotted {
		t.Fatalf("P12.8: Order(%v): %d, of the parts %v", w.needs, e, parts)
	}
	condensed, _ := graph.Condense(w.needs)
	if got, e := graph.Order(condensed); e != api.OK || len(got) != len(parts) {
		t.Fatalf("P12.2: Condense(%v) = %v, which has a knot", w.needs, condensed)
	}
	turned, _ := graph.Turned(w.needs)
	if got, e := graph.Parts(turned); e != api.OK || !same(got, parts) {
		t.Fatalf("P12.8: Parts of Turned(%v): %v, %d, want %v", w.needs, got, e, parts)
	}
	if got, e := graph.Turned(turned); e != api.OK || !same(got, tidy(w.needs)) {
		t.Fatalf("P12.7: Turned of Turned(%v): %v, %d", w.needs, got, e)
	}
	for u := range w.needs {
		reached, _ := graph.Reach(w.needs, []int{u})
		from := w.choose(func(v int) bool { return reached[v] })
		if got, e := graph.Reach(w.needs, from); e != api.OK || !slices.Equal(got, reached) {
			t.Fatalf("P12.8: Reach(%v, %v) = %v, %d, want %v", w.needs, from, got, e, reached)
		}
	}
}

// tidy tells a graph with its lists rising, without doubles.
func tidy(needs lists) lists {
	var all lists
	for _, list := range needs {
		all = append(all, slices.Compact(slices.Sorted(slices.Values(list))))
	}
	return all
}
