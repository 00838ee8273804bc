package orphans_test

import (
	"fmt"
	"slices"
	"testing"

	"larder/api"
	"larder/control"
	"larder/orphans"
	"larder/relation"
	"larder/valid"
)

// scene is what the calls are handed: a universe, a set of its places, and roots of the set.
type scene struct {
	u          []api.Package
	set, roots []int
}

func (s scene) String() string {
	var texts []string
	for i, p := range s.u {
		texts = append(texts, fmt.Sprintf("%d: %s %s depends %v pre %v provides %v", i, p.Name, p.Version, p.Depends, p.PreDepends, p.Provides))
	}
	return fmt.Sprintf("%q, set %v, roots %v", texts, s.set, s.roots)
}

// The chapter's words, said of a scene.

func (s scene) isUniverse() bool {
	for i, p := range s.u {
		if control.Check(p) != api.OK {
			return false
		}
		if i > 0 && (p.Name < s.u[i-1].Name || p.Name == s.u[i-1].Name && p.Version <= s.u[i-1].Version) {
			return false
		}
	}
	return len(s.u) <= api.MaxUniverse
}

func rises(list []int) bool {
	for i := range list {
		for j := range i {
			if list[j] >= list[i] {
				return false
			}
		}
	}
	return true
}

func (s scene) isSet() bool {
	names := map[string]int{}
	for _, p := range s.set {
		if p < 0 || p >= len(s.u) {
			return false
		}
		names[s.u[p].Name]++
	}
	return len(names) == len(s.set) && rises(s.set)
}

func (s scene) error() api.Errno {
	isOutside := func(root int) bool { return !slices.Contains(s.set, root) }
	switch {
	case !s.isUniverse() || !s.isSet():
		return api.ErrOrpSet
	case slices.ContainsFunc(s.roots, isOutside) || !rises(s.roots):
		return api.ErrOrpRoot
	}
	return api.OK
}

// wants tells whether the package at q satisfies a clause of the one at p.
func (s scene) wants(p, q int) bool {
	for _, clauses := range [][]api.Clause{s.u[p].Depends, s.u[p].PreDepends} {
		for _, c := range clauses {
			for _, a := range c {
				if relation.Meets(a, s.u[q]) {
					return true
				}
			}
		}
	}
	return false
}

// choose tells the places of a list of which something is so.
func choose(list []int, is func(p int) bool) []int {
	var chosen []int
	for _, p := range list {
		if is(p) {
			chosen = append(chosen, p)
		}
	}
	return chosen
}

// chains tells all chains of so many steps that lead from a root to a package, none of which comes to a package twice.
func (s scene) chains(who, steps int) [][]int {
	if steps == 0 {
		if slices.Contains(s.roots, who) {
			return [][]int{{who}}
		}
		return nil
	}
	var all [][]int
	for _, p := range s.set {
		if s.wants(p, who) {
			for _, chain := range s.chains(p, steps-1) {
				if !slices.Contains(chain, who) {
					all = append(all, append(chain, who))
				}
			}
		}
	}
	return all
}

// chain tells, of all chains of the fewest steps, the one that is least from its end.
func (s scene) chain(who int) []int {
	for steps := range s.set {
		if all := s.chains(who, steps); len(all) > 0 {
			return slices.MinFunc(all, func(a, b []int) int {
				for i := steps; i >= 0; i-- {
					if a[i] != b[i] {
						return a[i] - b[i]
					}
				}
				return 0
			})
		}
	}
	return nil
}

// sweep tells orphans in turns.
func (s scene) sweep(left []int) [][]int {
	var turns [][]int
	there := slices.Clone(s.set)
	for len(left) > 0 {
		turn := choose(left, func(q int) bool {
			return !slices.ContainsFunc(there, func(p int) bool { return p != q && s.wants(p, q) })
		})
		if len(turn) == 0 {
			turn = left
		}
		turns = append(turns, turn)
		stays := func(p int) bool { return !slices.Contains(turn, p) }
		left, there = choose(left, stays), choose(there, stays)
	}
	return turns
}

// packages tells the packages at some places.
func (s scene) packages(places []int) []api.Package {
	var list []api.Package
	for _, p := range places {
		list = append(list, s.u[p])
	}
	return list
}

// isClosed tells whether a part has the roots, and with each package every satisfier in the set.
func (s scene) isClosed(part []int) bool {
	for _, root := range s.roots {
		if !slices.Contains(part, root) {
			return false
		}
	}
	return s.hasSatisfiers(part)
}

func (s scene) hasSatisfiers(part []int) bool {
	for _, p := range part {
		for _, q := range s.set {
			if s.wants(p, q) && !slices.Contains(part, q) {
				return false
			}
		}
	}
	return true
}

// parts tells all parts of a list.
func parts(list []int) [][]int {
	all := [][]int{nil}
	for _, p := range list {
		for _, part := range all {
			all = append(all, append(slices.Clone(part), p))
		}
	}
	return all
}

// least tells what is in each part that is closed.
func (s scene) least() []int {
	least := s.set
	for _, part := range parts(s.set) {
		if s.isClosed(part) {
			least = choose(least, func(p int) bool { return slices.Contains(part, p) })
		}
	}
	return least
}

// answers is what the calls answer.
type answers struct {
	needed, orphans, distances []int
	chains                     [][]int // to each of the set
	turns                      [][]int
}

func (s scene) want() answers {
	var a answers
	for _, p := range s.set {
		chain := s.chain(p)
		a.chains = append(a.chains, chain)
		a.distances = append(a.distances, len(chain)-1)
		if chain == nil {
			a.orphans = append(a.orphans, p)
		} else {
			a.needed = append(a.needed, p)
		}
	}
	a.turns = s.sweep(a.orphans)
	return a
}

// ask tells what all calls answer, and their error, which must be the same of all.
func (s scene) ask(t *testing.T) (answers, api.Errno) {
	t.Helper()
	var a answers
	errors := make([]api.Errno, 4, 5)
	a.needed, errors[0] = orphans.Needed(s.u, s.set, s.roots)
	a.orphans, errors[1] = orphans.Orphans(s.u, s.set, s.roots)
	a.distances, errors[2] = orphans.Distances(s.u, s.set, s.roots)
	a.turns, errors[3] = orphans.Sweep(s.u, s.set, s.roots)
	for _, p := range s.set {
		chain, e := orphans.Chain(s.u, s.set, s.roots, p)
		errors = append(errors, e)
		a.chains = append(a.chains, chain)
	}
	for _, e := range errors {
		if e != errors[0] {
			t.Errorf("P19.2 to P19.5: %v: the errors %v", s, errors)
		}
	}
	return a, errors[0]
}

func sameRows(a, b [][]int) bool { return slices.EqualFunc(a, b, slices.Equal) }

// hold holds all calls against the chapter's words, and tells what they answered.
func hold(t *testing.T, s scene) answers {
	t.Helper()
	got, e := s.ask(t)
	if want := s.error(); e != want {
		t.Errorf("P19.2 to P19.5: %v: error %d, want %d", s, e, want)
		return answers{}
	}
	if e != api.OK {
		if len(got.needed)+len(got.orphans)+len(got.distances)+len(got.turns)+len(slices.Concat(got.chains...)) > 0 {
			t.Errorf("P19.2 to P19.5: %v: %+v beside an error", s, got)
		}
		return answers{}
	}
	want := s.want()
	if !slices.Equal(got.needed, want.needed) || !slices.Equal(got.orphans, want.orphans) {
		t.Errorf("P19.2: %v: needed %v, orphans %v, want %v, %v", s, got.needed, got.orphans, want.needed, want.orphans)
	}
	if !slices.Equal(got.distances, want.distances) {
		t.Errorf("P19.3: %v: %v, want %v", s, got.distances, want.distances)
	}
	if !sameRows(got.chains, want.chains) {
		t.Errorf("P19.4: %v: %v, want %v", s, got.chains, want.chains)
	}
	if !sameRows(got.turns, want.turns) {
		t.Errorf("P19.5: %v: %v, want %v", s, got.turns, want.turns)
	}
	s.holdWho(t)
	return got
}

// holdWho holds Chain to places that are not of the set against the chapter's words.
func (s scene) holdWho(t *testing.T) {
	t.Helper()
	for who := -1; who <= len(s.u); who++ {
		if slices.Contains(s.set, who) {
			continue
		}
		if chain, e := orphans.Chain(s.u, s.set, s.roots, who); len(chain) > 0 || e != api.ErrOrpWho {
			t.Errorf("P19.4: %v: to %d: %v, %d", s, who, chain, e)
		}
	}
}

// holdLaws holds what follows against the answers of a scene.
func holdLaws(t *testing.T, s scene, got answers) {
	t.Helper()
	if least := s.least(); !slices.Equal(got.needed, least) {
		t.Errorf("P19.7: %v: needed %v, the least set is %v", s, got.needed, least)
	}
	for _, p := range s.set {
		more := s
		more.roots = slices.Compact(slices.Sorted(slices.Values(append(slices.Clone(s.roots), p))))
		needed, e := orphans.Needed(more.u, more.set, more.roots)
		isLost := func(p int) bool { return !slices.Contains(needed, p) }
		if e != api.OK || isLost(p) || slices.ContainsFunc(got.needed, isLost) {
			t.Errorf("P19.8: %v: with the root %d: needed %v, %d, ahead of that %v", s, p, needed, e, got.needed)
		}
	}
	if left, e := orphans.Orphans(s.u, s.set, s.set); len(left) > 0 || e != api.OK {
		t.Errorf("P19.8: %v: with all as roots: orphans %v, %d", s, left, e)
	}
	if left, e := orphans.Orphans(s.u, s.set, nil); !slices.Equal(left, s.set) || e != api.OK {
		t.Errorf("P19.8: %v: without roots: orphans %v, %d", s, left, e)
	}
}

// holdSafe holds what follows of a Valid set, and tells whether it is one, and how many sets between it and the needed ones were looked at.
func holdSafe(t *testing.T, s scene, got answers) (isValid bool, between int) {
	t.Helper()
	if !valid.Valid(s.packages(s.set)) {
		return false, 0
	}
	if !valid.Valid(s.packages(got.needed)) {
		t.Errorf("P19.6: %v: the needed ones, %v, are not Valid", s, got.needed)
	}
	left := s.set
	for i, turn := range got.turns {
		left = choose(left, func(p int) bool { return !slices.Contains(turn, p) })
		if !valid.Valid(s.packages(left)) {
			t.Errorf("P19.5, P19.6: %v: behind turn %d of %v it is not Valid", s, i, got.turns)
		}
	}
	for _, part := range parts(got.orphans) {
		middle := slices.Sorted(slices.Values(append(slices.Clone(part), got.needed...)))
		if !s.hasSatisfiers(middle) || !valid.Valid(s.packages(middle)) {
			continue
		}
		between++
		if needed, e := orphans.Needed(s.u, middle, s.roots); !slices.Equal(needed, got.needed) || e != api.OK {
			t.Errorf("P19.6: %v: of %v needed %v, %d, want %v", s, middle, needed, e, got.needed)
		}
	}
	return true, between
}

// roots tells the names that the chapter says.
func roots(held []api.Held, holds []string) []string {
	var names []string
	for _, h := range held {
		isRoot := h.Mark == api.MarkManual || h.Essential || slices.Contains(holds, h.Name)
		if isRoot && !slices.Contains(names, h.Name) {
			names = append(names, h.Name)
		}
	}
	return slices.Sorted(slices.Values(names))
}
