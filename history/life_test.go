package history_test

import (
	"math/rand/v2"
	"slices"
	"testing"

	"larder/api"
	"larder/audit"
	"larder/exec"
	"larder/history"
	"larder/installed"
	"larder/order"
	"larder/samples"
	"larder/store"
	"larder/valid"
)

// shelf has the packages of a life and the contents of their files.
type shelf struct {
	held  []api.Held
	files map[api.Key][]api.Blob
}

func shelfOf(text string) shelf {
	s := shelf{held: samples.AllHeld(text), files: map[api.Key][]api.Blob{}}
	for i, part := range samples.Parts(text) {
		s.files[keyOf(s.held[i])] = samples.Blobs(part)
	}
	return s
}

// drawn tells a Valid set of some of them, by rising names.
func (s shelf) drawn(r *rand.Rand) []api.Held {
	for {
		var list []api.Held
		for _, h := range s.held {
			if r.IntN(2) == 0 && !slices.ContainsFunc(list, func(other api.Held) bool { return other.Name == h.Name }) {
				h.Mark = r.IntN(2)
				list = append(list, h)
			}
		}
		if valid.Valid(installed.Packages(list)) {
			return list
		}
	}
}

// works tells what leads from a state to a target, all in one change; false, if nothing does.
func (s shelf) works(t *testing.T, now api.State, target []api.Held) ([]api.Work, bool) {
	t.Helper()
	plan, e := order.Plan(installed.Packages(now.Held), installed.Packages(target))
	if e == api.ErrOrdCycle {
		return nil, false
	}
	if e != api.OK {
		t.Fatalf("P13.6: Plan = %d", e)
	}
	group := now.Seq + 1
	var list []api.Work
	for _, batch := range plan {
		w := api.Work{Group: group}
		for _, k := range batch.Out {
			w.Out = append(w.Out, k.Name)
		}
		for _, k := range batch.In {
			w.In = append(w.In, target[slices.IndexFunc(target, func(h api.Held) bool { return keyOf(h) == k })])
			w.Files = append(w.Files, s.files[k]...)
		}
		list = append(list, w)
	}
	return withMarks(now, target, list), true
}

// withMarks puts the marks that are to be turned into the first work; into one of their own, if there is none.
func withMarks(now api.State, target []api.Held, works []api.Work) []api.Work {
	var marks []string
	for _, h := range now.Held {
		at := slices.IndexFunc(target, func(other api.Held) bool { return keyOf(other) == keyOf(h) })
		goes := slices.ContainsFunc(works, func(w api.Work) bool { return slices.Contains(w.Out, h.Name) })
		if at >= 0 && target[at].Mark != h.Mark && !goes {
			marks = append(marks, h.Name)
		}
	}
	if len(marks) > 0 && len(works) == 0 {
		return []api.Work{{Group: now.Seq + 1, Marks: marks}}
	}
	if len(works) > 0 {
		works[0].Marks = marks
	}
	return works
}

// life is a store that is used.
type life struct {
	shelf
	r *rand.Rand
	d *store.Store
	x *exec.Exec
}

// change leads to a target by one change, if something does; it tells whether anything was done.
func (l *life) change(t *testing.T, target []api.Held) bool {
	t.Helper()
	works, ok := l.works(t, l.x.State(), target)
	if !ok || len(works) == 0 {
		return false
	}
	for _, w := range works {
		if e := l.x.Run(w); e != api.OK {
			t.Fatalf("P18.4: Run = %d", e)
		}
		if l.r.IntN(5) == 0 {
			l.x.Checkpoint()
		}
	}
	if wrong, e := audit.Check(l.d, l.x.State().Held); !sameHeld(l.x.State().Held, target) || len(wrong) > 0 || e != api.OK {
		t.Fatalf("P21.1: Check = %v, %d", wrong, e)
	}
	return true
}

// reopen lets the power go and come again.
func (l *life) reopen(t *testing.T) {
	t.Helper()
	l.d.Crash(api.Choice{})
	x, e := exec.Open(l.d)
	if e != api.OK {
		t.Fatalf("P18.1: Open = %d", e)
	}
	l.x = x
}

// P22.6: over a store, what was undone is what was held ahead, and undone again what was held behind, whatever Checkpoints and Opens come between.
func TestLife(t *testing.T) {
	t.Parallel()
	s := shelfOf("aa 1 a:1 x:1; aa 2 a:2; bb 1 depends=aa b:1; bb 2 pre=aa(>=2) x:2; cc 1 depends=bb|aa c:; cc 2 conflicts=dd c:2; dd 1 provides=mail c:3; ee 1 depends=mail e:1; ee 2 pre=cc; ff 1 depends=ee; ff 2")
	r := rand.New(rand.NewPCG(22, 6))
	counts := map[string]int{}
	for range 12 {
		l := &life{shelf: s, r: r, d: samples.Must(store.New(1 << 20))}
		l.reopen(t)
		for range 25 {
			was := l.x.State().Held
			if !l.change(t, s.drawn(r)) {
				counts["idle"]++
				continue
			}
			behind := l.x.State()
			if len(behind.Past) < 40 {
				hold(t, "a life", behind)
			}
			for turn, want := range [][]api.Held{was, behind.Held, was} {
				if r.IntN(2) == 0 {
					l.reopen(t)
				}
				u, target, e := history.Undo(l.x.State())
				if e != api.OK || !sameHeld(target, want) || len(u) < len(want) {
					t.Fatalf("P22.6: the turn %d: Undo = %v, %d, want %v", turn, target, e, want)
				}
				if !l.change(t, target) {
					counts["stuck"]++
					break
				}
				counts["undone"]++
			}
		}
		hold(t, "a life", l.x.State())
		counts["entries"] += len(l.x.State().Past)
	}
	if counts["undone"] < 800 || counts["entries"] < 2000 {
		t.Errorf("lives are answered %v", counts)
	}
}
