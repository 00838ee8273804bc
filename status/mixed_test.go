package status_test

import (
	"fmt"
	"math/rand/v2"
	"slices"
	"strings"
	"testing"

	"larder/api"
	"larder/samples"
	"larder/status"
)

// sets tells all lists that take of each name one of its packages, or none.
func sets(names ...string) [][]api.Held {
	all := [][]api.Held{nil}
	for _, choices := range names {
		for _, list := range slices.Clone(all) {
			for _, h := range heldOf(choices) {
				all = append(all, append(slices.Clone(list), h))
			}
		}
	}
	return all
}

// parts tells all parts of some words.
func parts(words ...string) [][]string {
	all := [][]string{nil}
	for _, word := range words {
		for _, list := range slices.Clone(all) {
			all = append(all, append(slices.Clone(list), word))
		}
	}
	return all
}

// holdBoth holds Fits and Apply against the oracle, and what follows of the state behind.
func holdBoth(t *testing.T, s api.State, c api.Commit, counts map[string]int) api.State {
	t.Helper()
	want, e := applied(s, c)
	counts[fmt.Sprint(int(e))]++
	got, f := status.Apply(s, c)
	if f != e || status.Fits(s, c) != e || told(got) != told(want) {
		t.Fatalf("P16.2: %q and %q: Apply = %q, %d, want %q, %d", told(s), told(c), told(got), f, told(want), e)
	}
	if e == api.OK && status.Check(got) != api.OK {
		t.Fatalf("P16.2: %q and %q: the state behind may not be", told(s), told(c))
	}
	return want
}

// P16.2: all small commits on all small states.
func TestSmall(t *testing.T) {
	t.Parallel()
	held := sets("aa 1 files=x; aa 2 files=y auto", "bb 1 files=x; bb 1 auto")
	in := sets("aa 1 files=x auto; aa 2 files=y", "bb 1 files=y", "cc 1 files=x auto")
	names := parts("aa", "bb", "cc")
	counts := map[string]int{}
	for _, h := range held {
		s := api.State{Seq: 3, Group: 2, Held: h, Before: heldOf("zz 1"), Past: []api.Entry{{Seq: 3, Group: 2}}}
		for _, i := range in {
			for _, out := range names {
				for _, marks := range names {
					for _, group := range []int{2, 4} {
						holdBoth(t, s, api.Commit{Seq: 4, Group: group, Out: out, In: i, Marks: marks}, counts)
					}
				}
			}
		}
	}
	if counts["0"] < 200 || counts["161"] < 500 || counts["163"] < 5000 {
		t.Errorf("small ones are answered %v", counts)
	}
}

// P16.2: all small numbers of a state, its last entry and a commit.
func TestSmallNumbers(t *testing.T) {
	t.Parallel()
	counts := map[string]int{}
	for _, n := range samples.Lists([]int{-1, 0, 1, 2, 3, 4}, 5) {
		if len(n) < 5 {
			continue
		}
		s := api.State{Seq: n[0], Group: n[1], Held: heldOf("aa 1")}
		c := commitOf(n[2], n[3], "", "", "aa")
		holdBoth(t, s, c, counts)
		s.Past = []api.Entry{{Seq: n[0], Group: n[4]}}
		holdBoth(t, s, c, counts)
	}
	if counts["0"] < 50 || counts["161"] < 500 || counts["162"] < 500 || counts["163"] < 500 {
		t.Errorf("small numbers are answered %v", counts)
	}
}

// mixedHeld tells some packages by rising names; each path is one of a few.
func mixedHeld(r *rand.Rand, names []string, most int) []api.Held {
	var list []api.Held
	for range r.IntN(most + 1) {
		text := fmt.Sprint(names[r.IntN(len(names))], " ", 1+r.IntN(2))
		if r.IntN(2) == 0 {
			text += fmt.Sprint(" files=f", r.IntN(12))
		}
		if r.IntN(2) == 0 {
			text += " auto"
		}
		list = append(list, heldOf(text)...)
	}
	slices.SortStableFunc(list, func(a, b api.Held) int { return strings.Compare(a.Name, b.Name) })
	return slices.CompactFunc(list, func(a, b api.Held) bool { return a.Name == b.Name })
}

// mixedNames tells some names that are held, now and then one that is not.
func mixedNames(r *rand.Rand, s api.State, most int) []string {
	var list []string
	for range r.IntN(most + 1) {
		if len(s.Held) > 0 && r.IntN(20) > 0 {
			list = append(list, s.Held[r.IntN(len(s.Held))].Name)
		} else if r.IntN(10) == 0 {
			list = append(list, "zz")
		}
	}
	slices.Sort(list)
	return slices.Compact(list)
}

// mixedCommit tells a commit that fits a state as often as not.
func mixedCommit(r *rand.Rand, s api.State) api.Commit {
	c := api.Commit{Seq: s.Seq + 1, Group: s.Seq + 1, Out: mixedNames(r, s, 3), Marks: mixedNames(r, s, 2)}
	c.In = mixedHeld(r, []string{"aa", "bb", "cc", "dd", "ee", "ff", "gg", "hh"}, 3)
	gone := func(name string) bool { return slices.Contains(c.Out, name) }
	if r.IntN(3) > 0 {
		c.Marks = slices.DeleteFunc(c.Marks, gone)
		c.In = slices.DeleteFunc(c.In, func(h api.Held) bool {
			return slices.ContainsFunc(s.Held, func(other api.Held) bool { return other.Name == h.Name }) && !gone(h.Name)
		})
	}
	switch r.IntN(12) {
	case 0, 1, 2, 3, 4:
		c.Group = s.Group
	case 5:
		c.Group = max(1, s.Group-1)
	case 6:
		c.Seq += r.IntN(3) - 1
	}
	for range r.IntN(3) {
		c.Steps = append(c.Steps, api.Step{Kind: r.IntN(256), From: "from", To: "to"})
	}
	return c
}

// reverse tells the commit that takes back what another one did to a state.
func reverse(s api.State, c api.Commit, seq, group int) api.Commit {
	back := api.Commit{Seq: seq, Group: group, Marks: c.Marks}
	for _, h := range c.In {
		back.Out = append(back.Out, h.Name)
	}
	for _, h := range s.Held {
		if slices.Contains(c.Out, h.Name) {
			back.In = append(back.In, h)
		}
	}
	return back
}

// P16.2, P16.5, P16.8: long ways of commits that fit and others.
func TestMixed(t *testing.T) {
	t.Parallel()
	r := rand.New(rand.NewPCG(16, 2))
	counts := map[string]int{}
	for range 5 {
		s := api.State{}
		for range 600 {
			c := mixedCommit(r, s)
			next := holdBoth(t, s, c, counts)
			if status.CheckCommit(c) == api.OK {
				holdCommit(t, "a mixed commit", c, api.OK)
			}
			if next.Seq == 0 {
				continue
			}
			group := []int{next.Group, next.Seq + 1}[r.IntN(2)]
			back, e := status.Apply(next, reverse(s, c, next.Seq+1, group))
			if e != api.OK || told(back.Held) != told(s.Held) {
				t.Fatalf("P16.8: %q and %q back: %q, %d", told(s), told(c), told(back), e)
			}
			s = next
		}
		holdState(t, "the state behind a long way", s, api.OK)
		counts["entries"] += len(s.Past)
	}
	if counts["0"] < 1000 || counts["162"] < 10 || counts["163"] < 500 || counts["entries"] != 5*256 {
		t.Errorf("long ways are answered %v", counts)
	}
}

// P16.1: states of parts that are mixed without rule.
func TestMixedStates(t *testing.T) {
	t.Parallel()
	r := rand.New(rand.NewPCG(16, 3))
	names := []string{"aa", "bb", "cc"}
	counts := map[api.Errno]int{}
	for range 30000 {
		s := api.State{Seq: r.IntN(5), Group: r.IntN(3), Held: mixedHeld(r, names, 3), Before: mixedHeld(r, names, 2)}
		for i := range r.IntN(3) {
			entry := api.Entry{Seq: s.Seq - r.IntN(2) + i, Group: 1 + r.IntN(2)}
			for _, h := range mixedHeld(r, names, 2) {
				entry.Out = append(entry.Out, keyOf(h))
			}
			for _, h := range mixedHeld(r, names, 2) {
				entry.In = append(entry.In, keyOf(h))
			}
			s.Past = append(s.Past, entry)
		}
		want := api.ErrStaState
		if stateMayBe(s) {
			want = api.OK
		}
		counts[want]++
		holdState(t, told(s), s, want)
	}
	if counts[api.OK] < 3000 || counts[api.ErrStaState] < 3000 {
		t.Errorf("mixed states are answered %v", counts)
	}
}
