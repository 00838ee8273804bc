package exec_test

import (
	"fmt"
	"math/rand/v2"
	"slices"
	"strings"
	"testing"

	"larder/api"
	"larder/exec"
	"larder/samples"
	"larder/status"
	"larder/store"
)

var names = []string{"aa", "bb", "cc", "dd", "ee", "ff"}

// mixedPackage tells a package of a name: its files are of a few paths, now and then it asks for another one.
func mixedPackage(r *rand.Rand, name string) string {
	words := []string{name, fmt.Sprint(1 + r.IntN(3))}
	paths := r.Perm(9)[:r.IntN(4)]
	slices.Sort(paths)
	for _, path := range paths {
		words = append(words, fmt.Sprintf("f%d:%s", path, strings.Repeat("x", r.IntN(4))))
	}
	switch r.IntN(8) {
	case 0:
		words = append(words, "depends="+names[r.IntN(len(names))])
	case 1:
		words = append(words, "conflicts="+names[r.IntN(len(names))])
	case 2:
		words = append(words, "pre="+names[r.IntN(len(names))])
	case 3:
		words = append(words, "auto")
	}
	return strings.Join(words, " ")
}

// some tells some of a list, in its order.
func some[T any](r *rand.Rand, list []T, oneIn int) []T {
	var chosen []T
	for _, x := range list {
		if r.IntN(oneIn) == 0 {
			chosen = append(chosen, x)
		}
	}
	return chosen
}

// mixedWork tells a work over a state, and what lies in the tree, that as often as not may be.
func mixedWork(r *rand.Rand, s api.State, files map[string]string) api.Work {
	var w api.Work
	held := map[string]bool{}
	for _, h := range some(r, s.Held, 4) {
		w.Out = append(w.Out, h.Name)
	}
	for _, h := range s.Held {
		held[h.Name] = !slices.Contains(w.Out, h.Name)
		if held[h.Name] && r.IntN(6) == 0 {
			w.Marks = append(w.Marks, h.Name)
		}
		for _, f := range h.Files {
			if held[h.Name] && r.IntN(6) == 0 {
				w.Mend = append(w.Mend, api.Blob{Name: f.Path, Data: []byte(files["t/"+f.Path])})
			}
		}
	}
	slices.SortFunc(w.Mend, func(a, b api.Blob) int { return strings.Compare(a.Name, b.Name) })
	for _, name := range some(r, names, 3) {
		if !held[name] || r.IntN(30) == 0 {
			text := mixedPackage(r, name)
			w.In = append(w.In, samples.Held(text))
			w.Files = append(w.Files, samples.Blobs(text)...)
		}
	}
	if r.IntN(2) == 0 {
		w.Group = s.Group
	}
	if len(w.Files) > 0 && r.IntN(20) == 0 {
		w.Files[0].Data = append(w.Files[0].Data, '!')
	}
	if len(w.Mend) > 0 && r.IntN(20) == 0 {
		w.Mend[0].Data = append(w.Mend[0].Data, '!')
	}
	return w
}

// mixedChoice tells what a crash keeps of so many operations.
func mixedChoice(r *rand.Rand, pending int) api.Choice {
	kept := make([]int, r.IntN(pending+2))
	for i := range kept {
		kept[i] = []int{0, 1, 1, 2, 3, 2 + r.IntN(200)}[r.IntN(6)]
	}
	return api.Choice{Kept: kept}
}

// way is a long mixed way of a pair, with what it was answered.
type way struct {
	pair
	t      *testing.T
	r      *rand.Rand
	counts map[string]int
}

// reopen lets a crash come, and opens anew till Open answers OK, the power going in some of the Opens; the states are those of which one must be there.
func (w *way) reopen(what string, states []api.State, least int) {
	w.t.Helper()
	for {
		choice := mixedChoice(w.r, w.d.Pending())
		w.d.Crash(choice)
		w.m.d.Crash(choice)
		w.fuse(w.r.IntN(12) - 4)
		p, e := opened(w.t, what, w.d, w.m.d)
		w.counts[fmt.Sprint("Open ", int(e))]++
		if e == api.ErrStoDead {
			continue
		}
		w.fuse(-1)
		w.pair = p
		_, at := holdWhole(w.t, what, w.d, states, least, len(states)-1)
		w.counts[fmt.Sprint("state ", at)]++
		return
	}
}

// step does one thing.
func (w *way) step(i int) {
	w.t.Helper()
	what := fmt.Sprint("the step ", i)
	if w.r.IntN(3) == 0 {
		w.fuse(w.r.IntN(20))
	}
	w.capacity(w.d.Used() + []int{room, api.Reserve + w.r.IntN(900), w.r.IntN(900)}[w.r.IntN(3)])
	ahead := w.m.state
	if w.r.IntN(12) == 0 {
		e := w.checkpoint(w.t, what)
		w.counts[fmt.Sprint("Checkpoint ", int(e))]++
		if e == api.ErrStoDead {
			w.reopen(what, []api.State{ahead}, 0)
		}
		return
	}
	work := mixedWork(w.r, ahead, samples.Seen(w.d))
	if w.x.Check([]api.Work{work}) != w.m.check([]api.Work{work}) {
		w.t.Fatalf("P18.3: %s: Check = %d", what, w.x.Check([]api.Work{work}))
	}
	e := w.run(w.t, what, work)
	w.counts[fmt.Sprint("Run ", int(e))]++
	if e != api.ErrStoDead {
		holdTree(w.t, what, w.d, w.m.state)
		return
	}
	behind := samples.Must(status.Apply(ahead, commitOf(ahead, work)))
	w.reopen(what, []api.State{ahead, behind}, 0)
}

// P18.1 to P18.8: long mixed ways of works, checkpoints, crashes and Opens: as the oracle has it.
func TestMixed(t *testing.T) {
	t.Parallel()
	for seed := range 4 {
		t.Run(fmt.Sprint(seed), func(t *testing.T) {
			t.Parallel()
			w := &way{pair: pairOf(t, nil, room), t: t, r: rand.New(rand.NewPCG(18, uint64(seed))), counts: map[string]int{}}
			for i := range 700 {
				w.step(i)
			}
			for what, least := range map[string]int{"Run 0": 50, "Run 143": 20, "Run 180": 50, "Run 182": 20, "Checkpoint 0": 10, "Checkpoint 143": 2, "Open 0": 20, "Open 143": 5, "state 0": 10, "state 1": 10} {
				if w.counts[what] < least {
					t.Errorf("a mixed way is answered %q %d times: %v", what, w.counts[what], w.counts)
				}
			}
		})
	}
}

// P18.3: rows of mixed works: each over the state that those ahead of it make.
func TestMixedRows(t *testing.T) {
	t.Parallel()
	r := rand.New(rand.NewPCG(18, 99))
	counts := map[api.Errno]int{}
	for range 400 {
		d := samples.Must(store.New(room))
		x := samples.Must(exec.Open(d))
		m := samples.Must(modelOpen(samples.Must(store.New(room))))
		var works []api.Work
		for range 1 + r.IntN(5) {
			w := mixedWork(r, m.state, samples.Seen(m.d))
			works = append(works, w)
			m.run(w)
		}
		first := samples.Must(modelOpen(samples.Must(store.New(room))))
		want := first.check(works)
		counts[want]++
		if e := x.Check(works); e != want || d.Calls() > 0 || x.State().Seq != 0 {
			t.Fatalf("P18.3: Check of %d works = %d, want %d", len(works), e, want)
		}
	}
	if counts[api.OK] < 50 || counts[api.ErrExeWork] < 50 {
		t.Errorf("rows of works are answered %v", counts)
	}
}
