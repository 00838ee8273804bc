package history_test

import (
	"cmp"
	"fmt"
	"slices"
	"testing"

	"larder/api"
	"larder/history"
)

// many tells so many packages from a place on, by rising names.
func many(from, n int) []api.Held {
	list := make([]api.Held, n)
	for i := range list {
		list[i] = api.Held{Package: api.Package{Name: fmt.Sprintf("p%06d", from+i), Version: "1"}}
	}
	return list
}

// keysOf tells their keys.
func keysOf(held []api.Held) []api.Key {
	list := make([]api.Key, len(held))
	for i, h := range held {
		list[i] = keyOf(h)
	}
	return list
}

// P22.4: as many packages, of both together, as a universe may have, and one more.
func TestManyPackages(t *testing.T) {
	t.Parallel()
	const most = api.MaxUniverse
	other := many(0, most)
	other[most-1].Mark = api.MarkAuto
	version := many(0, most)
	version[0].Version = "1.0"
	for _, c := range []struct {
		what         string
		held, before []api.Held
		group        int
		n            int // how many packages both have
		e            api.Errno
	}{
		{"all held, none before", many(0, most), nil, 1, most, api.OK},
		{"none held, all before", nil, many(0, most), 1, most, api.OK},
		{"half and half", many(0, most/2), many(most/2, most-most/2), 1, most, api.OK},
		{"all but one held, one before", many(0, most-1), many(most-1, 1), 1, most, api.OK},
		{"all of both, with a mark", many(0, most), other, 1, most, api.OK},
		{"all held, most of them before", many(0, most), many(7, most-7), 1, most, api.OK},
		{"one more held", many(0, most), many(most, 1), 1, 0, api.ErrIdxMany},
		{"one more before", many(most, 1), many(0, most), 1, 0, api.ErrIdxMany},
		{"one more by its version", many(0, most), version, 1, 0, api.ErrIdxMany},
		{"all of both, and none the same", many(0, most), many(most, most), 1, 0, api.ErrIdxMany},
		{"one more, of Group 0", many(0, most), many(most, 1), 0, 0, api.ErrHisNone},
		{"all of both, the same", many(0, most), many(0, most), 1, 0, api.ErrHisNone},
		{"more than a state may hold", many(0, most+1), nil, 1, 0, api.ErrHisState},
		{"more than a state may have held", nil, many(0, most+1), 1, 0, api.ErrHisState},
		{"more than a state may hold, and the same", many(0, most+1), many(0, most+1), 0, 0, api.ErrHisState},
	} {
		u, target, e := history.Undo(api.State{Seq: 1, Group: c.group, Held: c.held, Before: c.before})
		if e != c.e || len(u) != c.n || e != api.OK && (u != nil || target != nil) {
			t.Errorf("P22.4: %s: Undo = %d packages, %d, %d", c.what, len(u), len(target), e)
		}
		if e == api.OK && (!sameHeld(target, c.before) || !slices.IsSortedFunc(u, func(a, b api.Package) int { return cmp.Compare(a.Name, b.Name) })) {
			t.Errorf("P22.4: %s: Undo = another target, of %d", c.what, len(target))
		}
	}
}

// P22.1 to P22.3: commits of as many packages as there may be.
func TestManyKeys(t *testing.T) {
	t.Parallel()
	const most = api.MaxUniverse
	held := many(0, most)
	keys := keysOf(held)
	old := slices.Clone(keys)
	for i := range old {
		old[i].Version = "0"
	}
	s := api.State{Seq: 5, Group: 3, Held: held, Past: []api.Entry{{Seq: 3, Group: 3, Out: keys[:most/2]}, {Seq: 4, Group: 4, In: old}, {Seq: 5, Group: 4, Out: old, In: keys}}}
	if l, e := history.Entries(s); e != api.OK || !sameEntries(l, s.Past) {
		t.Errorf("P22.1: Entries = %d entries, %d", len(l), e)
	}
	if l, e := history.Of(s, held[most/2].Name); e != api.OK || !sameEntries(l, s.Past[1:]) {
		t.Errorf("P22.1: Of = %d entries, %d", len(l), e)
	}
	if l, e := history.Changes(s); e != api.OK || !sameEntries(l, []api.Entry{s.Past[0], {Seq: 5, Group: 4, In: keys}}) {
		t.Errorf("P22.2: Changes = %d entries, %d", len(l), e)
	}
	for seq, want := range map[int][]api.Key{5: keys, 4: old, 3: nil, 2: keys[:most/2]} {
		if l, e := history.At(s, seq); e != api.OK || !slices.Equal(l, want) {
			t.Errorf("P22.3: At %d = %d keys, %d", seq, len(l), e)
		}
	}
}
