package history_test

import (
	"fmt"
	"math/rand/v2"
	"slices"
	"strings"
	"testing"

	"larder/api"
	"larder/samples"
	"larder/status"
)

// P22.1 to P22.4, P22.6, P22.7: all histories of few small commits, each with all its entries and without its first ones.
func TestSmall(t *testing.T) {
	t.Parallel()
	var works []api.Work
	for _, text := range []string{"", "in aa 1 x:hi", "in aa 2", "in bb 1; in cc 1", "out aa", "out aa; in aa 1", "out aa; in aa 2; in bb 1", "out aa; in bb 1", "out bb", "out aa bb", "mark aa", "mark aa bb"} {
		works = append(works, samples.Work(text))
	}
	counts := map[string]int{}
	var grow func(s api.State, most int)
	grow = func(s api.State, most int) {
		hold(t, "a small history", s)
		for lost := range s.Past {
			shorter := s
			if shorter.Past = s.Past[lost+1:]; most > 0 {
				hold(t, "a small history", shorter)
			}
		}
		_, _, e := undone(s)
		counts[fmt.Sprint(int(e))]++
		if e == api.OK && most > 1 {
			holdUndone(t, "a small history", s)
		}
		for _, w := range works {
			for _, group := range []int{0, s.Group} {
				w.Group = group
				next, e := status.Apply(s, commitOf(s, w))
				if most > 0 && e == api.OK && (group > 0 || s.Group > 0 || s.Seq == 0) {
					grow(next, most-1)
				}
			}
		}
	}
	grow(api.State{}, 4)
	if counts["0"] < 5000 || counts["221"] < 500 {
		t.Errorf("small histories are answered %v", counts)
	}
}

// mixedHeld tells some packages by rising names; each path is one of a few.
func mixedHeld(r *rand.Rand, names []string, most int) []api.Held {
	var list []api.Held
	for range r.IntN(most + 1) {
		text := fmt.Sprint(names[r.IntN(len(names))], " ", 1+r.IntN(2))
		if r.IntN(2) == 0 {
			text += fmt.Sprint(" files=f", r.IntN(30))
		}
		if r.IntN(2) == 0 {
			text += " auto"
		}
		list = append(list, samples.Held(text))
	}
	slices.SortStableFunc(list, func(a, b api.Held) int { return strings.Compare(a.Name, b.Name) })
	return slices.CompactFunc(list, func(a, b api.Held) bool { return a.Name == b.Name })
}

// mixedCommit tells a commit that fits a state, unless its paths do not.
func mixedCommit(r *rand.Rand, s api.State, names []string) api.Commit {
	c := api.Commit{Seq: s.Seq + 1, Group: s.Seq + 1}
	if r.IntN(3) > 0 && s.Group > 0 {
		c.Group = s.Group
	}
	stays := map[string]bool{}
	for _, h := range s.Held {
		switch r.IntN(6) {
		case 0, 1:
			c.Out = append(c.Out, h.Name)
		case 2:
			c.Marks = append(c.Marks, h.Name)
			stays[h.Name] = true
		default:
			stays[h.Name] = true
		}
	}
	c.In = slices.DeleteFunc(mixedHeld(r, names, 3), func(h api.Held) bool { return stays[h.Name] })
	return c
}

// P22.1 to P22.4, P22.6, P22.7: long ways of commits.
func TestMixed(t *testing.T) {
	t.Parallel()
	r := rand.New(rand.NewPCG(22, 1))
	names := []string{"aa", "bb", "b2", "b10", "b+", "cc", "dd", "ee"}
	counts := map[string]int{}
	for range 6 {
		s := api.State{}
		for range 500 {
			next, e := status.Apply(s, mixedCommit(r, s, names))
			counts[fmt.Sprint(int(e))]++
			if e != api.OK {
				continue
			}
			s = next
			if len(s.Past) < 20 || r.IntN(150) == 0 {
				hold(t, "a long way", s)
				holdUndone(t, "a long way", s)
			}
		}
		counts["entries"] += len(s.Past)
		counts["changes"] += len(changed(s))
	}
	if counts["0"] < 2000 || counts["entries"] != 6*256 || counts["changes"] < 300 || counts["changes"] > 1000 {
		t.Errorf("long ways are answered %v", counts)
	}
}

// mixedPast tells entries that can be taken back from some packages, now and then one that can't.
func mixedPast(r *rand.Rand, seq int, held []api.Held, names []string) []api.Entry {
	var past []api.Entry
	var now []api.Key
	for _, h := range held {
		now = append(now, keyOf(h))
	}
	group := seq
	for i := range r.IntN(7) {
		entry := api.Entry{Seq: seq - i, Group: min(group, seq-i)}
		for _, k := range now {
			if r.IntN(3) == 0 {
				entry.In = append(entry.In, k)
			}
		}
		now = without(now, entry.In)
		for _, h := range mixedHeld(r, names, 2) {
			if !slices.ContainsFunc(now, func(k api.Key) bool { return k.Name == h.Name }) || r.IntN(30) == 0 {
				entry.Out = append(entry.Out, keyOf(h))
			}
		}
		now = append(now, entry.Out...)
		slices.SortFunc(now, byName)
		if r.IntN(2) == 0 {
			group = max(1, entry.Group-1-r.IntN(2))
		}
		past = append(past, entry)
	}
	slices.Reverse(past)
	if len(past) > 0 && r.IntN(12) == 0 {
		past[r.IntN(len(past))].Group += r.IntN(3) - 1
	}
	return past
}

// P22.1 to P22.4, P22.7: states that no commits have made, some of which may not be.
func TestMixedStates(t *testing.T) {
	t.Parallel()
	r := rand.New(rand.NewPCG(22, 2))
	names := []string{"aa", "bb", "cc", "dd"}
	counts := map[string]int{}
	for range 4000 {
		s := api.State{Seq: r.IntN(12), Held: mixedHeld(r, names, 4), Before: mixedHeld(r, names, 4)}
		s.Group = r.IntN(s.Seq + 1)
		if r.IntN(4) == 0 {
			s.Before = slices.Clone(s.Held)
			if len(s.Before) > 0 && r.IntN(2) == 0 {
				s.Before[0].Summary = "otherwise"
				s.Before[len(s.Before)-1].Mark = r.IntN(2)
			}
		}
		s.Past = mixedPast(r, s.Seq, s.Held, names)
		hold(t, "a mixed state", s)
		holdUndone(t, "a mixed state", s)
		_, _, e := undone(s)
		counts[fmt.Sprint(int(e))]++
		if e == api.OK && len(s.Past) > 2 && len(changed(s)) < len(s.Past) {
			counts["many"]++
		}
	}
	if counts["0"] < 1000 || counts["220"] < 400 || counts["221"] < 400 || counts["many"] < 200 {
		t.Errorf("mixed states are answered %v", counts)
	}
}
