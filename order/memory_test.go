package order_test

import (
	"reflect"
	"slices"
	"testing"

	"larder/api"
	"larder/order"
	"larder/samples"
)

// given is what the calls are handed, with room beyond the ends of all lists.
type given struct {
	s, t  set
	names []string
	b     api.Batch
	plan  []api.Batch
}

func roomyBatch(b api.Batch) api.Batch {
	beyond := api.Key{Name: "aa", Version: "1"}
	return api.Batch{Out: samples.Roomy(b.Out, beyond), In: samples.Roomy(b.In, beyond)}
}

func roomy(s, t string, names []string, b, plan string) given {
	w := see(s, t)
	g := given{samples.RoomyPackages(w.s), samples.RoomyPackages(w.t), samples.Roomy(names, "zz"), roomyBatch(batch(b)), nil}
	for _, b := range batches(plan) {
		g.plan = append(g.plan, roomyBatch(b))
	}
	g.plan = samples.Roomy(g.plan, api.Batch{})
	return g
}

// room tells a copy of all that has room there.
func (g given) room() given {
	g.s, g.t, g.names = samples.ExtentOfPackages(g.s), samples.ExtentOfPackages(g.t), samples.Room(g.names)
	g.b, g.plan = roomOf(g.b), samples.Room(g.plan)
	for i, b := range g.plan {
		g.plan[i] = roomOf(b)
	}
	return g
}

func roomOf(b api.Batch) api.Batch {
	return api.Batch{Out: samples.Room(b.Out), In: samples.Room(b.In)}
}

func (g given) spoil() {
	samples.SpoilPackages(g.s)
	samples.SpoilPackages(g.t)
	samples.Fill(g.names, "spoiled")
	spoilBatches(append(slices.Clone(g.plan[:cap(g.plan)]), g.b))
	samples.Fill(g.plan, api.Batch{})
}

func spoilBatches(list []api.Batch) {
	for _, b := range list {
		samples.Fill(b.Out, api.Key{Name: "spoiled"})
		samples.Fill(b.In, api.Key{Name: "spoiled"})
	}
}

// answers is what the calls answer.
type answers struct {
	names           [][]string // of Changes, of Graph, then of Ends
	needs           [][]int
	is, more        bool
	kept, displaced []api.Key
	batches         []api.Batch // of Next, then of Plan
	behind          set
	e               [10]api.Errno
}

func (g given) ask() answers {
	var a answers
	var ends [][]string
	a.names = make([][]string, 2)
	a.names[0], a.e[0] = order.Changes(g.s, g.t)
	a.names[1], a.needs, a.e[1] = order.Graph(g.s, g.t)
	ends, a.e[2] = order.Ends(g.s, g.t)
	a.names = append(a.names, ends...)
	a.is, a.e[3] = order.Admissible(g.s, g.t, g.names)
	a.kept, a.e[4] = order.Kept(g.s, g.t)
	var next api.Batch
	next, a.more, a.e[5] = order.Next(g.s, g.t)
	a.behind, a.e[6] = order.Behind(g.s, g.t, g.b)
	plan, e := order.Plan(g.s, g.t)
	a.batches, a.e[7] = append([]api.Batch{next}, plan...), e
	a.e[8] = order.Check(g.s, g.t, g.plan)
	a.displaced, a.e[9] = order.Displaced(g.s, g.t, g.plan)
	return a
}

// copied tells a copy that shares no memory, in which nil and empty are one.
func (a answers) copied() answers {
	b := a
	b.names, b.needs, b.batches = nil, nil, nil
	for _, list := range a.names {
		b.names = append(b.names, slices.Concat(list))
	}
	for _, list := range a.needs {
		b.needs = append(b.needs, slices.Concat(list))
	}
	for _, c := range a.batches {
		b.batches = append(b.batches, api.Batch{Out: slices.Concat(c.Out), In: slices.Concat(c.In)})
	}
	b.kept, b.displaced = slices.Concat(a.kept), slices.Concat(a.displaced)
	b.behind = samples.ExtentOfPackages(slices.Clip(a.behind))
	return b
}

func (a answers) spoil() {
	samples.FillRows(a.names, "spoiled")
	samples.FillRows(a.needs, -9)
	spoilBatches(a.batches)
	samples.Fill(a.kept, api.Key{Name: "spoiled"})
	samples.Fill(a.displaced, api.Key{Name: "spoiled"})
	samples.SpoilPackages(a.behind)
}

// someGiven tells ways with parts of several units, with a displacing batch, with a cycle, and ones that are refused.
func someGiven() []given {
	const (
		s = "aa 1 depends=ll conflicts=zz provides=xx,yy files=f; bb 1; cc 1 depends=dd pre=dd|ee; dd 1 provides=ee; ll 1; mm 1 depends=ll(=1) files=g"
		t = "aa 1 depends=ll conflicts=zz provides=xx,yy files=f; cc 1 depends=dd pre=dd|ee; dd 1 provides=ee; hh 1 depends=ii files=h; ii 1 depends=hh; ll 2; mm 2 pre=ll(=2) files=g"
	)
	return []given{
		roomy(s, t, []string{"bb", "hh"}, "-bb1 +hh1", "-bb1; +hh1 +ii1; -aa1 -ll1 -mm1; +ll2; +aa1; +mm2"),
		roomy("", "aa 1 pre=bb; bb 1 depends=aa; cc 1 files=a,b", []string{"aa"}, "+aa1", "+cc1"),
		roomy("aa 1; bb 1", "bb 1; cc 1", []string{"bb"}, "-cc1", "-aa1; ."),
		roomy("bb 1; aa 1", "bb 1", []string{"aa"}, "-aa1", "-aa1"),
		roomy("", "", nil, "", ""),
	}
}

// P13.1 to P13.6, P13.10: what is handed in is not written into, and not kept; what stands beyond its end is not looked at.
func TestGivenMemory(t *testing.T) {
	for i, g := range someGiven() {
		before := g.room()
		got := g.ask()
		if !reflect.DeepEqual(g.room(), before) {
			t.Errorf("P13.1: %d: what is handed in is written into", i)
		}
		kept := got.copied()
		g.spoil()
		if !reflect.DeepEqual(got.copied(), kept) {
			t.Errorf("P13.4: %d: an answer shares memory with what was handed in", i)
		}
		if again := someGiven()[i].ask(); !reflect.DeepEqual(again.copied(), kept) {
			t.Errorf("P13.1: %d: asked again: %+v, want %+v", i, again, kept)
		}
	}
	first := someGiven()[0].ask()
	if first.e != [10]api.Errno{} || len(first.names) < 4 || len(first.kept) != 2 || len(first.displaced) != 1 || len(first.batches) != 7 || len(first.behind) != 6 || !first.is || !first.more {
		t.Errorf("the sample is no good: %+v", first)
	}
}

// P13.1 to P13.5, P13.10: what is answered is new memory.
func TestAnsweredMemory(t *testing.T) {
	for i, g := range someGiven() {
		before := g.room()
		got, kept := g.ask(), g.ask()
		want := kept.copied()
		got.spoil()
		if !reflect.DeepEqual(kept.copied(), want) || !reflect.DeepEqual(g.ask().copied(), want) {
			t.Errorf("P13.1: %d: two answers share memory", i)
		}
		if !reflect.DeepEqual(g.room(), before) {
			t.Errorf("P13.4: %d: what is written into an answer is seen in what was handed in", i)
		}
	}
}

// lists tells all lists of names, numbers and keys that were answered.
func (a answers) lists() []reflect.Value {
	var all []reflect.Value
	add := func(list any) { all = append(all, reflect.ValueOf(list)) }
	for _, names := range a.names {
		add(names)
	}
	for _, list := range a.needs {
		add(list)
	}
	for _, b := range a.batches {
		add(b.Out)
		add(b.In)
	}
	for _, p := range a.behind {
		add(p.Conflicts)
		add(p.Provides)
		add(p.Files)
		for _, c := range slices.Concat(p.Depends, p.PreDepends) {
			add(c)
		}
	}
	return all
}

// P13.1, P13.4, P13.5: no two lists of one answer share memory, room beyond their ends included.
func TestListsApart(t *testing.T) {
	for i, g := range someGiven() {
		seen := map[uintptr]int{}
		for number, list := range g.ask().lists() {
			// The place of each thing that the list has room for.
			for k := range list.Cap() {
				place := list.Slice(0, list.Cap()).Index(k).Addr().Pointer()
				if other, known := seen[place]; known {
					t.Errorf("P13.1: %d: the lists %d and %d share memory", i, other, number)
				}
				seen[place] = number
			}
		}
	}
}

// Nil and empty are one.
func TestNothing(t *testing.T) {
	for _, none := range []set{nil, {}} {
		for _, names := range [][]string{nil, {}} {
			for _, b := range []api.Batch{{}, {Out: []api.Key{}, In: []api.Key{}}} {
				for _, plan := range [][]api.Batch{nil, {}} {
					for call, e := range calls(way{none, none}, names, b, plan) {
						if e != api.OK {
							t.Errorf("%s: of nothing: %d", call, e)
						}
					}
				}
				if e := order.Check(none, none, []api.Batch{b}); e != api.ErrOrdPlan {
					t.Errorf("P13.6: an empty batch: %d", e)
				}
			}
		}
		hold(t, way{none, none})
		hold(t, way{none, set{{Name: "aa", Version: "1", Depends: []api.Clause{}, Files: []api.File{}}}})
	}
}
