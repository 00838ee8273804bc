package tree_test

import (
	"fmt"
	"math/rand/v2"
	"slices"
	"strings"
	"testing"

	"larder/api"
	"larder/samples"
	"larder/store"
	"larder/tree"
)

// scene is a batch over a tree: what stays, what goes, what comes.
type scene struct{ stays, out, in string }

var scenes = []scene{
	{"", "", ""},
	{"", "", "aa a=1"},
	{"", "aa a=1", ""},
	{"", "aa a=1", "aa a=2"},
	{"", "aa x=1 y=2", "bb y=3 z=4"},
	{"cc w=0", "aa x=1 y=2", "bb z=4 y=3"},
	{"cc w=0 a=1; dd; ee b=", "aa x=1; bb y=2", "bb y=2 c=; aa x=7"},
	{"cc a/b=1", "aa a=1", "bb a/b/c=2 a!=3"},
	{"cc w=0", "aa x=1; bb y=2; dd z=3", "aa x= y= z="},
	{"cc w=0", "aa; bb", "aa; bb"},
	{"cc w=0", "aa x=1 y=1 z=1", "bb u=1 v=1"},
}

const seq = 3

// treeOf tells the disk of a state's tree, and what else a store has.
func treeOf(packages string) disk {
	d := diskOf("d/journal=j d/status=s")
	for i, data := range contentsOf(packages) {
		d["t/"+allFiles(packagesOf(packages))[i].Path] = string(data)
	}
	return d
}

// both puts lists of packages together.
func both(a, b string) string { return strings.Trim(a+"; "+b, "; ") }

func (c scene) ahead() disk  { return treeOf(both(c.stays, c.out)) }
func (c scene) behind() disk { return treeOf(both(c.stays, c.in)) }

func (c scene) steps() []api.Step {
	return samples.Must(tree.Steps(seq, packagesOf(c.out), packagesOf(c.in)))
}

// holdBehind holds the tree on a store against that of what stays and what has come.
func (c scene) holdBehind(t *testing.T, what string, s *store.Store) {
	t.Helper()
	if got, want := seen(s), c.behind().String(); got != want {
		t.Errorf("P17.11: %+v, %s: %q, want %q", c, what, got, want)
	}
	want := samples.Must(tree.Manifest(packagesOf(both(c.stays, c.in))))
	if got, e := tree.Look(s); e != api.OK || told(got) != told(want) {
		t.Errorf("P17.11: %+v, %s: Look = %v, %v, want %v", c, what, got, e, want)
	}
	if missing, changed, extra, e := tree.Differ(s, want); e != api.OK || len(missing)+len(changed)+len(extra) > 0 {
		t.Errorf("P17.11: %+v, %s: Differ = %q, %q, %q, %v", c, what, missing, changed, extra, e)
	}
}

// P17.11: Do of Steps leads from the one tree to the other, on a store without any room left.
func TestFollows(t *testing.T) {
	t.Parallel()
	for _, c := range scenes {
		s := c.ahead().store(1000)
		if e := tree.Stage(s, seq, contentsOf(c.in)); e != api.OK {
			t.Fatalf("P17.8: %+v: Stage: %v", c, e)
		}
		s.SetCapacity(0)
		if n, e := tree.Do(s, c.steps()); n != len(c.steps()) || e != api.OK {
			t.Errorf("P17.9: %+v: Do: %d, %v, want %d", c, n, e, len(c.steps()))
		}
		c.holdBehind(t, "done", s)
		if n, e := tree.Do(s, c.steps()); n != 0 || e != api.OK {
			t.Errorf("P17.9: %+v: Do again: %d, %v", c, n, e)
		}
		c.holdBehind(t, "done twice", s)
	}
}

// P17.11: behind each choice of steps that have been done already Do does the others.
func TestEachChoiceDone(t *testing.T) {
	t.Parallel()
	for _, c := range scenes {
		steps := c.steps()
		for choice := range 1 << len(steps) {
			d := c.ahead()
			d.stage(seq, contentsOf(c.in), 1000, -1)
			done := 0
			for i, step := range steps {
				if choice>>i&1 == 1 {
					d.do([]api.Step{step}, -1)
					done++
				}
			}
			s := d.store(0)
			if n, e := tree.Do(s, steps); n != len(steps)-done || e != api.OK {
				t.Errorf("P17.9: %+v, choice %b: Do: %d, %v, want %d", c, choice, n, e, len(steps)-done)
			}
			c.holdBehind(t, fmt.Sprintf("choice %b", choice), s)
		}
	}
}

// P17.9, P17.11: the power goes at each call of Do, and again in the next one; crashes keep all choices of what was pending.
func TestFuses(t *testing.T) {
	t.Parallel()
	crashes := 0
	for _, c := range scenes {
		steps := c.steps()
		ready := c.ahead()
		ready.stage(seq, contentsOf(c.in), 1000, -1)
		for first := range len(steps) + 1 {
			for second := -1; second < len(steps); second++ {
				for _, kept := range samples.Lists([]int{0, 1, 2}, min(first+1, 4)) {
					s := ready.store(0)
					s.Fuse(first)
					tree.Do(s, steps)
					s.Crash(api.Choice{Kept: kept})
					s.Fuse(second)
					if _, e := tree.Do(s, steps); e == api.ErrStoDead {
						s.Crash(api.Choice{Kept: kept})
						crashes++
						if _, e := tree.Do(s, steps); e != api.OK {
							t.Errorf("P17.9: %+v, fuses %d, %d, kept %v: %v", c, first, second, kept, e)
						}
					}
					c.holdBehind(t, fmt.Sprintf("fuses %d, %d, kept %v", first, second, kept), s)
				}
			}
		}
	}
	if crashes < 1000 {
		t.Errorf("P17.9: only %d crashes in the midst of a second Do", crashes)
	}
}

// P17.9: what Do tells where the power goes at each of its calls; what is pending then leaves nothing, all, or all but the last step.
func TestFuseAtEachCall(t *testing.T) {
	t.Parallel()
	for _, c := range scenes {
		steps := c.steps()
		ready := c.ahead()
		ready.stage(seq, contentsOf(c.in), 1000, -1)
		for fuse := range len(steps) {
			for _, kept := range []int{0, fuse, fuse + 1} {
				s := ready.store(0)
				s.Fuse(fuse)
				if n, e := tree.Do(s, steps); n != fuse || e != api.ErrStoDead || !s.Dead() {
					t.Errorf("P17.9: %+v, fuse %d: %d, %v", c, fuse, n, e)
				}
				if n, e := tree.Do(s, steps); n != 0 || e != api.ErrStoDead {
					t.Errorf("P17.9: %+v without power: %d, %v", c, n, e)
				}
				s.Crash(api.Choice{Kept: slices.Repeat([]int{1}, kept)})
				if n, e := tree.Do(s, steps); n != len(steps)-kept || e != api.OK {
					t.Errorf("P17.9: %+v behind a crash that kept %d: %d, %v", c, kept, n, e)
				}
				c.holdBehind(t, "behind the crash", s)
			}
		}
	}
}

// P17.8, P17.10: the power goes while files are staged: the tree is what it was, and Clean takes all away that a crash has left.
func TestStageCutOff(t *testing.T) {
	t.Parallel()
	for _, c := range scenes {
		contents := contentsOf(c.in)
		for fuse := range len(contents) {
			for _, kept := range samples.Lists([]int{0, 1, 2, 3}, min(fuse+1, 3)) {
				s := c.ahead().store(1000)
				s.Fuse(fuse)
				if e := tree.Stage(s, seq, contents); e != api.ErrStoDead || s.Calls() != fuse {
					t.Errorf("P17.8: %+v, fuse %d: %v, %d calls", c, fuse, e, s.Calls())
				}
				s.Crash(api.Choice{Kept: kept})
				left := len(slices.Collect(s.Names("n/")))
				want := samples.Must(tree.Manifest(packagesOf(both(c.stays, c.out))))
				if got, e := tree.Look(s); e != api.OK || told(got) != told(want) {
					t.Errorf("P17.3: %+v, fuse %d: Look = %v, %v, want %v", c, fuse, got, e, want)
				}
				if n, e := tree.Clean(s, nil); n != left || e != api.OK || seen(s) != c.ahead().String() {
					t.Errorf("P17.10: %+v, fuse %d: Clean: %d, %v, %q", c, fuse, n, e, seen(s))
				}
			}
		}
	}
}

// mixedScene deals paths out to packages.
func mixedScene(r *rand.Rand) scene {
	paths := []string{"a", "a/b", "a!", "b", "c", "d", "e/f/g", "h"}
	deal := func(paths []string) string {
		var list []string
		for i := range 3 {
			name := string(rune('a'+r.IntN(26))) + string(rune('a'+i))
			for range r.IntN(3) {
				if len(paths) > 0 {
					name += fmt.Sprintf(" %s=%d", paths[0], r.IntN(30))
					paths = paths[1:]
				}
			}
			list = append(list, name)
		}
		return strings.Join(list, "; ")
	}
	shuffled := func(list []string) []string {
		list = slices.Clone(list)
		r.Shuffle(len(list), func(i, j int) { list[i], list[j] = list[j], list[i] })
		return list
	}
	all := shuffled(paths)
	cut := r.IntN(5)
	return scene{deal(all[:cut]), deal(shuffled(all[cut:])), deal(shuffled(all[cut:]))}
}

// P17.6 to P17.11: mixed scenes, each cut off again and again.
func TestMixedScenes(t *testing.T) {
	t.Parallel()
	r := rand.New(rand.NewPCG(17, 2))
	cut := 0
	for range 5000 {
		c := mixedScene(r)
		holdSteps(t, seq, packagesOf(c.out), packagesOf(c.in))
		steps := c.steps()
		s := c.ahead().store(1000)
		tree.Stage(s, seq, contentsOf(c.in))
		s.Sync()
		for range 1000 { // far more than it takes
			s.Fuse(r.IntN(len(steps) + 3))
			if _, e := tree.Do(s, steps); e == api.OK {
				break
			}
			cut++
			var kept []int
			for range s.Pending() {
				kept = append(kept, r.IntN(4))
			}
			s.Crash(api.Choice{Kept: kept})
			s.Fuse(-1)
			if n, e := tree.Clean(s, steps); n != 0 || e != api.OK {
				t.Fatalf("P17.10: %+v: Clean of what is still wanted: %d, %v", c, n, e)
			}
		}
		c.holdBehind(t, "mixed", s)
	}
	if cut < 1000 {
		t.Errorf("P17.11: only %d were cut off", cut)
	}
}
