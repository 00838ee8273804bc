package order_test

import (
	"fmt"
	"reflect"
	"slices"
	"strings"
	"testing"

	"larder/api"
	"larder/order"
	"larder/samples"
)

// see makes a way of packages with `; ` between them.
func see(s, t string) way { return way{samples.Packages(s), samples.Packages(t)} }

func (w way) String() string { return fmt.Sprintf("from %+v to %+v", w.s, w.t) }

// told tells batches as `-aa1 +aa2; +bb1`; names have two bytes here.
func told(plan []api.Batch) string {
	var texts []string
	for _, b := range plan {
		var words []string
		for _, k := range b.Out {
			words = append(words, "-"+k.Name+k.Version)
		}
		for _, k := range b.In {
			words = append(words, "+"+k.Name+k.Version)
		}
		texts = append(texts, strings.Join(words, " "))
	}
	return strings.Join(texts, "; ")
}

// batches reads what told tells; `.` is an empty batch.
func batches(text string) []api.Batch {
	var plan []api.Batch
	for _, part := range samples.Parts(text) {
		var b api.Batch
		for _, word := range strings.Fields(strings.TrimSuffix(part, ".")) {
			k := api.Key{Name: word[1:3], Version: word[3:]}
			if word[0] == '-' {
				b.Out = append(b.Out, k)
			} else {
				b.In = append(b.In, k)
			}
		}
		plan = append(plan, b)
	}
	return plan
}

func batch(text string) api.Batch { return append(batches(text), api.Batch{})[0] }

// toldKeys tells keys as `aa1 bb1`.
func toldKeys(list []api.Key) string {
	var words []string
	for _, k := range list {
		words = append(words, k.Name+k.Version)
	}
	return strings.Join(words, " ")
}

// same tells whether two answers are alike, nil as empty, however deep.
func same(a, b any) bool { return fmt.Sprint(a) == fmt.Sprint(b) }

// found is what a way turned out to be.
type found struct {
	e          api.Errno
	batches    int
	kinds      [5]int // pairs of units with an edge of one kind alone
	several    bool   // a part of several units goes and comes
	later      bool   // the first admissible end is not the first end
	loosened   bool   // behind a batch an edge is gone between two units that still change
	displacing bool
	keptSome   bool // then, of what stays R is a part, neither none nor all
	kept       bool // there is an R at first
	displaced  int
}

// hold holds all calls on a state and a target against the document's words.
func hold(t *testing.T, w way) found {
	t.Helper()
	looks := w.looks()
	looks[0].holdGraph(t)
	w.holdAdmissible(t)
	plan, e := planOf(looks)
	if got, e2 := order.Plan(w.s, w.t); e2 != e || told(got) != told(plan) {
		t.Fatalf("P13.5: %v: Plan = %q, %d, want %q, %d", w, told(got), e2, told(plan), e)
	}
	if e != api.OK && !w.isRealCycle() {
		t.Fatalf("P13.8: %v: the cycle is none", w)
	}
	if e == api.OK {
		w.holdChecked(t, plan)
		holdCount(t, looks)
	}
	for _, l := range looks {
		l.holdNext(t)
	}
	return seen(looks)
}

func (l look) holdGraph(t *testing.T) {
	t.Helper()
	if got, e := order.Changes(l.s, l.t); e != api.OK || !slices.Equal(got, l.names) {
		t.Fatalf("P13.1: %v: Changes = %q, %d, want %q", l.way, got, e, l.names)
	}
	if got, lists, e := order.Graph(l.s, l.t); e != api.OK || !slices.Equal(got, l.names) || !same(lists, l.needs) {
		t.Fatalf("P13.1: %v: Graph = %q, %v, %d, want %q, %v", l.way, got, lists, e, l.names, l.needs)
	}
	if got, e := order.Ends(l.s, l.t); e != api.OK || !same(got, l.ends) {
		t.Fatalf("P13.1: %v: Ends = %q, %d, want %q", l.way, got, e, l.ends)
	}
	kept := keys(l.kept())
	if got, e := order.Kept(l.s, l.t); e != api.OK || !slices.Equal(got, kept) {
		t.Fatalf("P13.2: %v: Kept = %v, %d, want %v", l.way, got, e, kept)
	}
}

// holdAdmissible asks of all choices of names that change, or of many.
func (w way) holdAdmissible(t *testing.T) {
	t.Helper()
	changes := w.changes()
	for bits := range min(1<<len(changes), 20) {
		var names []string
		for i, name := range changes {
			if bits>>i&1 == 1 {
				names = append(names, name)
			}
		}
		if got, e := order.Admissible(w.s, w.t, names); e != api.OK || got != w.isAdmissible(names) {
			t.Fatalf("P13.2: %v: Admissible(%q) = %t, %d", w, names, got, e)
		}
	}
}

// holdNext holds the next batch, and the state behind it.
func (l look) holdNext(t *testing.T) {
	t.Helper()
	b, more, e := l.next()
	if got, m, e2 := order.Next(l.s, l.t); e2 != e || m != more || !same(got, b) {
		t.Fatalf("P13.3: %v: Next = %v, %t, %d, want %v, %t, %d", l.way, got, m, e2, b, more, e)
	}
	behind, _ := l.behind(b)
	if got, e := order.Behind(l.s, l.t, b); e != api.OK || !reflect.DeepEqual(slices.Concat(got), slices.Concat(behind)) {
		t.Fatalf("P13.4: %v: Behind(%v) = %+v, %d, want %+v", l.way, b, got, e, behind)
	}
}

// holdChecked holds what is asked of a plan, and of others made of it.
func (w way) holdChecked(t *testing.T, plan []api.Batch) {
	t.Helper()
	if e := order.Check(w.s, w.t, plan); e != api.OK || w.check(plan) != api.OK {
		t.Fatalf("P13.7: %v: Check(%q) = %d", w, told(plan), e)
	}
	for _, other := range others(plan) {
		want := w.check(other)
		if e := order.Check(w.s, w.t, other); e != want {
			t.Fatalf("P13.6: %v: Check(%q) = %d, want %d", w, told(other), e, want)
		}
		var displaced []api.Key
		if want == api.OK {
			displaced = w.displaced(other)
		}
		if got, e := order.Displaced(w.s, w.t, other); e != want || !slices.Equal(got, displaced) {
			t.Fatalf("P13.10: %v: Displaced(%q) = %v, %d, want %v, %d", w, told(other), got, e, displaced, want)
		}
	}
}

// others tells a plan and what comes of it, if batches are left out, changed about, made one, done twice, or packages moved.
func others(plan []api.Batch) [][]api.Batch {
	list := [][]api.Batch{plan, append(slices.Clone(plan), api.Batch{})}
	for i, b := range plan {
		list = append(list, slices.Concat(plan[:i], plan[i+1:]), slices.Concat(plan[:i+1], plan[i:]), slices.Concat(plan[:i], []api.Batch{{Out: b.Out}, {In: b.In}}, plan[i+1:]))
		if i > 0 {
			ahead := plan[i-1]
			one := api.Batch{Out: merged(ahead.Out, b.Out), In: merged(ahead.In, b.In)}
			list = append(list, slices.Concat(plan[:i-1], []api.Batch{b, ahead}, plan[i+1:]), slices.Concat(plan[:i-1], []api.Batch{one}, plan[i+1:]))
		}
	}
	if len(plan) > 0 {
		// What has come last goes and comes again.
		list = append(list, slices.Concat(plan, []api.Batch{{Out: plan[len(plan)-1].In}}, []api.Batch{{In: plan[len(plan)-1].In}}))
	}
	return list
}

func merged(a, b []api.Key) []api.Key {
	list := slices.Concat(a, b)
	slices.SortFunc(list, func(k, l api.Key) int { return strings.Compare(k.Name, l.Name) })
	return list
}

// holdCount holds how many batches there are.
func holdCount(t *testing.T, looks []look) {
	t.Helper()
	most, count, displacing := len(looks[0].names), 0, 0
	for i, l := range looks[:len(looks)-1] {
		count++
		if l.at < 0 {
			displacing++
			most, count = len(looks[i+1].names), 0
		}
		if count > most || displacing > 1 {
			t.Fatalf("P13.9: %v: %d batches, %d of them displacing", looks[0].way, len(looks)-1, displacing)
		}
	}
}

// seen tells what a way turned out to be.
func seen(looks []look) found {
	first := looks[0]
	plan, e := planOf(looks)
	kept := first.kept()
	is := found{e: e, batches: len(plan), kept: len(kept) > 0, displaced: len(first.displaced(plan))}
	for _, row := range first.kinds {
		for _, kinds := range row {
			if len(kinds) == 1 {
				is.kinds[kinds[0]]++
			}
		}
	}
	for i, l := range looks[:len(looks)-1] {
		if l.at < 0 {
			is.displacing = true
			is.keptSome = len(l.kept()) > 0 && len(l.kept()) < len(l.stays())
			continue
		}
		is.later = is.later || l.at > 0
		is.several = is.several || len(l.ends[l.at]) > 1
		is.loosened = is.loosened || loosens(l, looks[i+1])
	}
	return is
}

// loosens tells whether an edge is gone between two units that still change.
func loosens(l, next look) bool {
	for i, u := range next.names {
		for j, v := range next.names {
			if len(next.kinds[i][j]) == 0 && len(l.kinds[slices.Index(l.names, u)][slices.Index(l.names, v)]) > 0 {
				return true
			}
		}
	}
	return false
}
