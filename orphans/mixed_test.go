package orphans_test

import (
	"math/rand/v2"
	"slices"
	"strings"
	"testing"

	"larder/api"
	"larder/orphans"
	"larder/samples"
	"larder/valid"
)

// drawn makes a universe of names of which some depend on others, as bits say: bit i*n+j tells that the one at i depends on the one at j.
func drawn(names []string, bits int) []api.Package {
	u := make([]api.Package, len(names))
	for i, name := range names {
		u[i] = api.Package{Name: name, Version: "1"}
		for j, other := range names {
			if bits>>(i*len(names)+j)&1 == 1 {
				u[i].Depends = append(u[i].Depends, api.Clause{{Name: other}})
			}
		}
	}
	return u
}

// tally counts scenes by what is in their answers.
type tally struct {
	both, far, turns, rings, valid, between int
}

// add holds all that is said of a scene, and counts it.
func (c *tally) add(t *testing.T, s scene) {
	t.Helper()
	got := hold(t, s)
	if s.error() != api.OK {
		return
	}
	holdLaws(t, s, got)
	is, between := holdSafe(t, s, got)
	if len(got.needed) > 0 && len(got.orphans) > 0 {
		c.both++
	}
	if len(got.distances) > 0 && slices.Max(got.distances) > 1 {
		c.far++
	}
	if len(got.turns) > 1 {
		c.turns++
	}
	if n := len(got.turns); n > 0 && s.isRing(got.turns[n-1]) {
		c.rings++
	}
	if is && len(got.orphans) > 0 {
		c.valid++
	}
	if between > 2 {
		c.between++
	}
}

// isRing tells whether each of a turn is wanted by another of it.
func (s scene) isRing(turn []int) bool {
	for _, q := range turn {
		if !slices.ContainsFunc(turn, func(p int) bool { return p != q && s.wants(p, q) }) {
			return false
		}
	}
	return true
}

func (c *tally) check(t *testing.T, least int) {
	t.Helper()
	if min(c.both, c.far, c.turns, c.rings, c.valid, c.between) < least {
		t.Errorf("the scenes are no good: %+v", *c)
	}
}

// P19.2 to P19.8: all ways in which three depend on one another and on themselves, with all sets and roots.
func TestThree(t *testing.T) {
	t.Parallel()
	var count tally
	for bits := range 1 << 9 {
		u := drawn([]string{"aa", "bb", "cc"}, bits)
		for _, set := range parts(all(3)) {
			for _, roots := range parts(set) {
				count.add(t, scene{u, set, roots})
			}
		}
	}
	count.check(t, 100)
}

// P19.2 to P19.5: all ways in which four depend on one another, with roots and without.
func TestFour(t *testing.T) {
	t.Parallel()
	for ways := range 1 << 12 {
		bits := 0
		for edge := range 12 {
			from, to := edge/3, edge%3
			if to >= from {
				to++
			}
			bits |= ways >> edge & 1 << (from*4 + to)
		}
		u := drawn([]string{"aa", "bb", "cc", "dd"}, bits)
		for _, roots := range [][]int{nil, {1, 3}} {
			hold(t, scene{u, all(4), roots})
		}
	}
}

// P19.2 to P19.5: all lists of few places as sets and roots, right ones or not.
func TestPlaces(t *testing.T) {
	t.Parallel()
	u := samples.Packages("aa 1 depends=bb; aa 2 depends=cc; bb 1 depends=cc|aa; cc 1")
	count := map[api.Errno]int{}
	places := []int{-1, 0, 1, 2, 3, 4}
	for _, set := range samples.Lists(places, 3) {
		for _, roots := range samples.Lists(places, 2) {
			s := scene{u, set, roots}
			hold(t, s)
			count[s.error()]++
		}
	}
	if count[api.OK] < 40 || count[api.ErrOrpRoot] < 400 || count[api.ErrOrpSet] < 4000 {
		t.Errorf("the lists are no good: %v", count)
	}
}

// mixer makes universes by chance.
type mixer struct{ *rand.Rand }

func pick[T any](m mixer, items ...T) T { return items[m.IntN(len(items))] }

func (m mixer) name() string {
	return pick(m, "aa", "bb", "cc", "dd", "ee", "ff", "gg", "xx", "yy")
}

func (m mixer) version() string { return pick(m, "1", "1.0", "1.00", "2", "10") }

func (m mixer) atom() string {
	if m.IntN(3) > 0 {
		return m.name()
	}
	return m.name() + "(" + pick(m, "<<", "<=", "=", ">=", ">>") + m.version() + ")"
}

// clause makes a clause of so many atoms or fewer.
func (m mixer) clause(most int) string {
	atoms := []string{m.atom()}
	for range m.IntN(most) {
		atoms = append(atoms, m.atom())
	}
	return strings.Join(atoms, "|")
}

func (m mixer) pkg(name, version string, needs int) api.Package {
	words := []string{name, version}
	for range m.IntN(needs + 1) {
		words = append(words, pick(m, "depends=", "pre=")+m.clause(3))
	}
	switch m.IntN(4) {
	case 0:
		words = append(words, "provides="+pick(m, "xx", "yy", "xx,yy", "aa", name))
	case 1:
		words = append(words, "conflicts="+pick(m, "zz", "xx(<<2)", m.atom()))
	}
	return samples.Package(strings.Join(words, " "))
}

// universe makes one of some names, of a few several versions.
func (m mixer) universe(needs int) []api.Package {
	var u []api.Package
	for _, name := range []string{"aa", "bb", "cc", "dd", "ee", "ff", "gg", "xx"} {
		for _, version := range []string{"1", "1.00", "2"} {
			if m.IntN(9) < 4 {
				u = append(u, m.pkg(name, version, needs))
			}
		}
	}
	return u
}

// set chooses one package of most names; made whole, it has what can be with what it needs.
func (m mixer) set(s scene, isWhole bool) []int {
	var set []int
	for p := range s.u {
		if m.IntN(5) > 0 && (len(set) == 0 || s.u[set[len(set)-1]].Name != s.u[p].Name) {
			set = append(set, p)
		}
	}
	if !isWhole {
		return set
	}
	var whole []int
	for _, place := range valid.Closed(s.packages(set)) {
		whole = append(whole, set[place])
	}
	return whole
}

func (m mixer) some(list []int, one int) []int {
	return choose(list, func(int) bool { return m.IntN(one) == 0 })
}

// P19.2 to P19.8: mixed universes, sets and roots.
func TestMixed(t *testing.T) {
	t.Parallel()
	m := mixer{rand.New(rand.NewPCG(19, 1))}
	var count tally
	for i := range 4000 {
		s := scene{u: m.universe(1 + m.IntN(3))}
		s.set = m.set(s, i%2 == 0)
		s.roots = m.some(s.set, 2+m.IntN(5))
		count.add(t, s)
	}
	count.check(t, 150)
}

// P19.2 to P19.5: mixed scenes in which one place of the set or the roots is spoiled.
func TestSpoiled(t *testing.T) {
	t.Parallel()
	m := mixer{rand.New(rand.NewPCG(19, 2))}
	count := map[api.Errno]int{}
	for range 4000 {
		s := scene{u: m.universe(2)}
		s.set = m.set(s, false)
		s.roots = m.some(s.set, 2)
		list := pick(m, s.set, s.roots, s.roots)
		if len(list) > 0 {
			list[m.IntN(len(list))] = m.IntN(len(s.u)+2) - 1
		}
		hold(t, s)
		count[s.error()]++
	}
	if min(count[api.OK], count[api.ErrOrpSet], count[api.ErrOrpRoot]) < 200 {
		t.Errorf("the scenes are no good: %v", count)
	}
}

// P19.8: root by root, no fewer are needed, and none comes farther away.
func TestRootByRoot(t *testing.T) {
	t.Parallel()
	m := mixer{rand.New(rand.NewPCG(19, 3))}
	grown := 0
	for range 500 {
		s := scene{u: m.universe(3)}
		s.set = m.set(s, false)
		var ahead []int
		for _, i := range m.Perm(len(s.set)) {
			s.roots = slices.Sorted(slices.Values(append(s.roots, s.set[i])))
			needed, e := orphans.Needed(s.u, s.set, s.roots)
			if e != api.OK || slices.ContainsFunc(ahead, func(p int) bool { return !slices.Contains(needed, p) }) {
				t.Errorf("P19.8: %v: needed %v, %d, ahead of that %v", s, needed, e, ahead)
			}
			if len(needed) > len(ahead)+1 {
				grown++
			}
			ahead = needed
		}
		if !slices.Equal(ahead, s.set) {
			t.Errorf("P19.8: %v: with all as roots needed %v", s, ahead)
		}
	}
	if grown < 100 {
		t.Errorf("the scenes are no good: %d grew by more than the root", grown)
	}
}
