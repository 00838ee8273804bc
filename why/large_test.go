package why_test

import (
	"fmt"
	"slices"
	"testing"

	"larder/api"
	"larder/why"
)

const many = api.MaxUniverse

// named tells the name of the package at a place of a large set.
func named(place int) string { return fmt.Sprintf("p%06d", place) }

// made makes a large installed set of automatic packages, in which each has what a function adds to it.
func made(n int, add func(place int, h *api.Held)) []api.Held {
	held := make([]api.Held, n)
	for i := range held {
		held[i] = api.Held{Package: api.Package{Name: named(i), Version: "1"}, Mark: api.MarkAuto}
		add(i, &held[i])
	}
	return held
}

func on(names ...string) []api.Clause {
	c := make(api.Clause, len(names))
	for i, name := range names {
		c[i].Name = name
	}
	return []api.Clause{c}
}

// keysOf tells the keys of packages at some places.
func keysOf(places ...int) []api.Key {
	keys := make([]api.Key, len(places))
	for i, p := range places {
		keys[i] = api.Key{Name: named(p), Version: "1"}
	}
	return keys
}

// upTo tells so many places.
func upTo(n int) []int {
	list := make([]int, n)
	for i := range list {
		list[i] = i
	}
	return list
}

// P20.1 to P20.3, P20.5: more packages than a universe has, each of which leans on the next one.
func TestLongRow(t *testing.T) {
	t.Parallel()
	const n = many + 9
	held := made(n, func(place int, h *api.Held) { h.Depends = on(named(place + 1)) })
	held[0].Mark = api.MarkManual
	if chain, e := why.Chain(held, named(n-1)); e != api.OK || !slices.Equal(chain, keysOf(upTo(n)...)) {
		t.Errorf("P20.2: a chain of %d, %d", len(chain), e)
	}
	held[n/2].Mark = api.MarkManual
	slices.Reverse(held)
	if chain, e := why.Chain(held, named(n-1)); e != api.OK || !slices.Equal(chain, keysOf(upTo(n)[n/2:]...)) {
		t.Errorf("P20.2: a chain of %d, %d", len(chain), e)
	}
	rows, e := why.Leans(held)
	if e != api.OK || len(rows) != n || len(rows[0]) > 0 {
		t.Fatalf("P20.1: %d rows, %d", len(rows), e)
	}
	for i, row := range rows[1:] {
		if !slices.Equal(row, []int{i}) {
			t.Fatalf("P20.1: the row %d is %v", i+1, row)
		}
	}
	if keys, e := why.Alone(held, named(7)); e != api.OK || !slices.Equal(keys, keysOf(6)) {
		t.Errorf("P20.3: %v, %d", keys, e)
	}
	held[n-1].Name = held[0].Name
	if rows, e := why.Leans(held); e != api.ErrWhyTwice || len(rows) > 0 {
		t.Errorf("P20.1: %d rows, %d", len(rows), e)
	}
}

// P20.1 to P20.3: as many as a universe has, all of which provide one name, need it, and need its own package in a version.
func TestManyAlike(t *testing.T) {
	t.Parallel()
	held := made(many, func(place int, h *api.Held) {
		h.Provides = []string{"xx", "xx"}
		h.Depends = append(on("zz", "xx"), api.Clause{{Name: "xx", Op: api.OpAtLeast, Version: "2"}})
		h.PreDepends = on("xx")
	})
	held[many-1].Mark = api.MarkManual
	rows, e := why.Leans(held)
	if e != api.OK || len(rows) != many {
		t.Fatalf("P20.1: %d rows, %d", len(rows), e)
	}
	for i, row := range rows {
		if want := []int{min(1, max(0, 1-i))}; !slices.Equal(row, want) {
			t.Fatalf("P20.1: the row %d is %v, want %v", i, row, want)
		}
	}
	for name, want := range map[string][]api.Key{
		named(0): keysOf(many-1, 0), named(1): keysOf(many-1, 0, 1), named(2): nil, named(many - 1): keysOf(many - 1),
	} {
		if chain, e := why.Chain(held, name); e != api.OK || !slices.Equal(chain, want) {
			t.Errorf("P20.2: %s: %v, %d, want %v", name, chain, e, want)
		}
	}
}

// P20.2, P20.3: half of a set leans on one package, which leans on the other half.
func TestManyUsers(t *testing.T) {
	t.Parallel()
	const half = many / 2
	held := made(2*half+1, func(place int, h *api.Held) {
		if place < half {
			h.Mark = api.MarkManual
			h.PreDepends = on(named(half))
		}
	})
	for place := range half {
		held[half].Depends = append(held[half].Depends, on(named(2*half-place))...)
	}
	slices.Reverse(held)
	for _, to := range []int{half + 1, 2 * half} {
		if chain, e := why.Chain(held, named(to)); e != api.OK || !slices.Equal(chain, keysOf(0, half, to)) {
			t.Errorf("P20.2: %v, %d", chain, e)
		}
	}
	if keys, e := why.Alone(held, named(half)); e != api.OK || !slices.Equal(keys, keysOf(upTo(half)...)) {
		t.Errorf("P20.3: %d packages, %d", len(keys), e)
	}
	rows, e := why.Leans(held)
	if e != api.OK || !slices.Equal(rows[half], upTo(half)) || !slices.Equal(rows[2*half], []int{half}) {
		t.Errorf("P20.1: %d rows, %d", len(rows), e)
	}
}

// P20.2: layers of packages of which each leans on all of the next layer, so that there are very many chains.
func TestManyChains(t *testing.T) {
	t.Parallel()
	const wide, deep = 60, 60
	held := made(wide*deep, func(place int, h *api.Held) {
		if place < wide {
			h.Mark = api.MarkManual
		}
		if next := place/wide + 1; next < deep {
			for i := range wide {
				h.Depends = append(h.Depends, on(named(next*wide+(i+place)%wide))...)
			}
		}
	})
	var want []int
	for layer := range deep - 1 {
		want = append(want, layer*wide)
	}
	want = append(want, wide*deep-7)
	if chain, e := why.Chain(held, named(wide*deep-7)); e != api.OK || !slices.Equal(chain, keysOf(want...)) {
		t.Errorf("P20.2: %v, %d", chain, e)
	}
	slices.Reverse(held)
	if chain, e := why.Chain(held, named(wide*deep-7)); e != api.OK || !slices.Equal(chain, keysOf(want...)) {
		t.Errorf("P20.2: turned about: %v, %d", chain, e)
	}
}

// P20.4: a large universe in which what is wished can't be, for want of looks and with enough of them.
func TestBlameLarge(t *testing.T) {
	t.Parallel()
	var s scene
	for i := range 400 {
		s.u = append(s.u, api.Package{Name: named(i), Version: "1", Depends: on(named(i + 1))})
	}
	s.r = api.Request{Wishes: []api.Wish{{Atom: api.Atom{Name: named(390)}}}, Budget: 1 << 20}
	rules, verdict, e := s.blame()
	if e != api.OK || verdict != api.Unsat || len(rules) != 11 {
		t.Errorf("P20.4: %d rules, %d, %d", len(rules), verdict, e)
	}
	for i, r := range rules {
		if i > 0 && r.Who.Name != named(389+i) {
			t.Errorf("P20.4: the rule %d is %+v", i, r)
		}
	}
	s.r.Budget = 1000
	if rules, verdict, e := s.blame(); e != api.OK || verdict != api.Spent || len(rules) > 0 {
		t.Errorf("P20.4: %d rules, %d, %d", len(rules), verdict, e)
	}
}
