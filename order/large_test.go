package order_test

import (
	"slices"
	"strconv"
	"testing"

	"larder/api"
	"larder/order"
)

const most = api.MaxUniverse

// name tells a name of a number, of one length, so that names rise with numbers.
func name(first string, number int) string {
	return first + strconv.Itoa(1000000 + number)[1:]
}

// made makes so many packages in order, with what is said of each.
func made(first string, n int, say func(number int, p *api.Package)) set {
	s := make(set, n)
	for i := range s {
		s[i] = api.Package{Name: name(first, i), Version: "1"}
		if say != nil {
			say(i, &s[i])
		}
	}
	return s
}

// on makes a clause of a name alone.
func on(name string) []api.Clause { return []api.Clause{{{Name: name}}} }

// chain makes packages of which each depends on the next one.
func chain(n int) set {
	return made("p", n, func(i int, p *api.Package) {
		if i+1 < n {
			p.Depends = on(name("p", i+1))
		}
	})
}

// alone tells whether each batch is of one package, and the packages are these in this order.
func alone(plan []api.Batch, out, in []api.Key) bool {
	var gone, come []api.Key
	for _, b := range plan {
		if len(b.Out)+len(b.In) != 1 {
			return false
		}
		gone, come = append(gone, b.Out...), append(come, b.In...)
	}
	return slices.Equal(gone, out) && slices.Equal(come, in)
}

// P13.1, P13.5: a chain as long as a state may be, to be laid and to be taken up.
func TestLongChain(t *testing.T) {
	t.Parallel()
	all := chain(most)
	names, needs, e := order.Graph(nil, all)
	if e != api.OK || len(names) != most || len(needs) != most || !slices.Equal(needs[0], []int{1}) || len(needs[most-1]) > 0 {
		t.Errorf("P13.1: Graph: %d names, %d", len(names), e)
	}
	plan, e := order.Plan(all, nil)
	if e != api.OK || !alone(plan, keys(all), nil) {
		t.Errorf("P13.5: taken up: %d batches, %d", len(plan), e)
	}
	falling := keys(all)
	slices.Reverse(falling)
	plan, e = order.Plan(nil, all)
	if e != api.OK || !alone(plan, nil, falling) {
		t.Errorf("P13.5: laid: %d batches, %d", len(plan), e)
	}
}

// P13.3, P13.5: one part as large as a state may be.
func TestLongRing(t *testing.T) {
	t.Parallel()
	all := chain(most)
	all[most-1].Depends = on(name("p", 0))
	for _, c := range []struct {
		s, t set
		b    api.Batch
	}{{nil, all, api.Batch{In: keys(all)}}, {all, nil, api.Batch{Out: keys(all)}}} {
		plan, e := order.Plan(c.s, c.t)
		if e != api.OK || len(plan) != 1 || !same(plan[0], c.b) {
			t.Errorf("P13.5: %d batches, %d", len(plan), e)
		}
		if e := order.Check(c.s, c.t, plan); e != api.OK {
			t.Errorf("P13.6: %d", e)
		}
	}
	all[most/2].PreDepends = all[most/2].Depends
	if b, more, e := order.Next(nil, all); e != api.ErrOrdCycle || more || len(b.In) > 0 {
		t.Errorf("P13.3: with a Pre-Depends: %d packages, %t, %d", len(b.In), more, e)
	}
}

// P13.5: everything is exchanged for something else.
func TestAllExchanged(t *testing.T) {
	t.Parallel()
	old, new := made("p", most, nil), made("q", most, nil)
	plan, e := order.Plan(old, new)
	if e != api.OK || !alone(plan, keys(old), keys(new)) {
		t.Errorf("P13.5: %d batches, %d", len(plan), e)
	}
	if plan, e = order.Plan(new, old); e != api.ErrOrdSet || len(plan) > 0 {
		t.Errorf("P13.5: one too many comes first: %d batches, %d", len(plan), e)
	}
}

// P13.5, P13.10: nearly everything is displaced, but some that lean on nothing.
func TestManyDisplaced(t *testing.T) {
	t.Parallel()
	stays := made("p", most-3, func(i int, p *api.Package) {
		if i%2 == 0 {
			p.Depends = on("ll")
		}
	})
	w := see("ll 1; mm 1 depends=ll(=1)", "ll 2; mm 2 pre=ll(=2)")
	w.s, w.t = append(w.s, stays...), append(w.t, stays...)
	plan, e := order.Plan(w.s, w.t)
	if e != api.OK || len(plan) != 3+len(stays)/2 || len(plan[0].Out) != 2+len(stays)/2 || len(plan[0].In) > 0 {
		t.Fatalf("P13.5: %d batches, %d", len(plan), e)
	}
	if got := told(plan[1:3]); got != "+ll2; +mm2" {
		t.Errorf("P13.5: %q", got)
	}
	if !alone(plan[3:], nil, plan[0].Out[2:]) {
		t.Error("P13.5: what is displaced does not come again one by one")
	}
	if kept, e := order.Kept(w.s, w.t); e != api.OK || len(kept) != len(stays)/2 {
		t.Errorf("P13.2: %d packages are kept, %d", len(kept), e)
	}
}

// P13.5: all provide and need one name, which the first one meets for all.
func TestManyAlike(t *testing.T) {
	t.Parallel()
	all := made("p", most, func(_ int, p *api.Package) { p.Provides, p.Depends = []string{"xx"}, on("xx") })
	plan, e := order.Plan(nil, all)
	if e != api.OK || !alone(plan, nil, keys(all)) {
		t.Errorf("P13.5: laid: %d batches, %d", len(plan), e)
	}
	rest := append(keys(all)[1:], key(all[0]))
	if plan, e = order.Plan(all, nil); e != api.OK || !alone(plan, rest, nil) {
		t.Errorf("P13.5: taken up: %d batches, %d", len(plan), e)
	}
}

// P13.2 to P13.6: states with as many packages as may be, and with one more.
func TestBounds(t *testing.T) {
	t.Parallel()
	full := made("p", most, nil)
	early := append(see("aa 1", "").s, full[1:]...) // what comes is ahead of what goes
	late := append(slices.Clone(full[1:]), see("zz 1", "").s...)
	first, aa, zz := []api.Key{key(full[0])}, []api.Key{{Name: "aa", Version: "1"}}, []api.Key{{Name: "zz", Version: "1"}}

	b, more, e := order.Next(full, early)
	if e != api.OK || !more || !same(b, api.Batch{In: aa}) {
		t.Errorf("P13.3: %v, %t, %d", b, more, e)
	}
	behind, e := order.Behind(full, early, b)
	if e != api.OK || len(behind) != most+1 || behind[0].Name != "aa" {
		t.Errorf("P13.4: %d packages, %d", len(behind), e)
	}
	if plan, e := order.Plan(full, early); e != api.ErrOrdSet || len(plan) > 0 {
		t.Errorf("P13.5: %d batches, %d", len(plan), e)
	}
	if e := order.Check(full, early, []api.Batch{{In: aa}, {Out: first}}); e != api.ErrOrdPlan {
		t.Errorf("P13.6: one too many between: %d", e)
	}
	if e := order.Check(full, early, []api.Batch{{Out: first}, {In: aa}}); e != api.OK {
		t.Errorf("P13.6: one too few between: %d", e)
	}
	if plan, e := order.Plan(full, late); e != api.OK || !same(plan, []api.Batch{{Out: first}, {In: zz}}) {
		t.Errorf("P13.5: %v, %d", plan, e)
	}
	if plan, e := order.Plan(early, full); e != api.OK || !same(plan, []api.Batch{{Out: aa}, {In: first}}) {
		t.Errorf("P13.5: %v, %d", plan, e)
	}
	for _, w := range []way{{behind, nil}, {nil, behind}} {
		for call, e := range calls(w, nil, api.Batch{}, nil) {
			if e != api.ErrOrdSet {
				t.Errorf("%s: one too many: %d", call, e)
			}
		}
	}
}

// P13.1, P13.5 to P13.7, P13.10: some hundreds that all stand in the way of what comes.
func TestManyConflicts(t *testing.T) {
	t.Parallel()
	const n = 300
	old := made("p", n, func(_ int, p *api.Package) { p.Provides = []string{"xx"} })
	new := made("q", n, func(_ int, p *api.Package) { p.Conflicts = []api.Atom{{Name: "xx"}} })
	_, needs, e := order.Graph(old, new)
	if e != api.OK || len(needs) != 2*n || len(needs[0]) > 0 || len(needs[n]) != n || len(needs[2*n-1]) != n {
		t.Errorf("P13.1: %d units, %d", len(needs), e)
	}
	plan, e := order.Plan(old, new)
	if e != api.OK || !alone(plan, keys(old), keys(new)) {
		t.Errorf("P13.5: %d batches, %d", len(plan), e)
	}
	if displaced, e := order.Displaced(old, new, plan); e != api.OK || len(displaced) > 0 {
		t.Errorf("P13.7, P13.10: %d packages, %d", len(displaced), e)
	}
}
