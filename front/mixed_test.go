package front_test

import (
	"fmt"
	"math/rand/v2"
	"slices"
	"testing"

	"larder/api"
	"larder/samples"
	"larder/store"
)

// walk is a mixed life of an installer.
type walk struct {
	pair
	r        *rand.Rand
	names    []string
	archives []api.Blob
	odd      bool // somebody else has written into the store
	counts   map[string]int
}

// TestMixed holds lives of installers against the model: all calls, stores that fill, power that fails, somebody else who writes.
func TestMixed(t *testing.T) {
	t.Parallel()
	counts := map[string]int{}
	for seed := range uint64(800) {
		w := &walk{pair: newPair(t), r: rand.New(rand.NewPCG(seed, 23)), names: []string{"aa", "bb", "cc", "dd", "ee"}, counts: counts}
		for range 14 {
			w.step(t)
		}
	}
	for _, what := range []string{
		"apply 1", "apply 2", "apply 3", "apply 4", "apply 5", "apply 6", "apply 7", "apply 8", "apply 9", "partly",
		"sweep 1", "sweep 6", "sweep 8", "undo 1", "undo 6", "undo 7", "undo 8", "undo 9", "mark 0", "mark 143", "mark 230", "mark 1",
		"repair 0", "repair 143", "mended", "crash", "an Open that dies", "odd",
	} {
		if counts[what] < 3 {
			t.Errorf("%s: %d times", what, counts[what])
		}
	}
}

// step does one thing, and holds what may be behind it.
func (w *walk) step(t *testing.T) {
	t.Helper()
	w.surround()
	s := w.m.x.State()
	switch w.r.IntN(15) {
	case 0, 1:
		if w.r.IntN(4) == 0 {
			w.capacity(w.d.Used())
		}
		w.count("sweep", w.sweep(t, pick(w.r, nil, nil, w.names[:1])...).Answer)
	case 2, 3:
		w.count("undo", w.undo(t, matching(s.Before, pick(w.r, w.archives, mixedArchives(w.r, w.archives), nil))).Answer)
	case 4, 5:
		w.count("mark", int(w.mark(t, pick(w.r, w.names...), w.r.IntN(3))))
	case 6, 7:
		left, e := w.repair(t, slices.Concat(matching(s.Held, mixedArchives(w.r, w.archives)), w.archives))
		if w.count("repair", int(e)); e == api.OK && w.odd && len(left) == 0 {
			w.counts["mended"]++
			w.odd = false
		}
	default:
		w.wish(t)
	}
	w.asked(t, "a step", w.names[:2], w.names[:2], w.names[2:3])
	if w.m.x.Dead() {
		w.reopen(t)
	}
	if !w.odd {
		w.whole(t, "a step")
	}
}

func (w *walk) count(what string, answer int) { w.counts[fmt.Sprint(what, " ", answer)]++ }

// wish lets a request be planned, blamed and carried out.
func (w *walk) wish(t *testing.T) {
	t.Helper()
	s, request := mixedShelf(w.r, w.names, 6), mixedRequest(w.r, w.names)
	if w.r.IntN(2) == 0 {
		s, request = mixedRelease(w.r, w.names), asks(pick(w.r, "upgrade", "install ee", "install dd; install cc; upgrade", "remove aa", "install bb(>=2); install ee"))
	}
	text := s.index
	if w.r.IntN(30) == 0 {
		text = append(slices.Clone(text), pick(w.r, "\njunk", "\n\nPackage: zz\n", "\x00")...)
	}
	w.plan(t, text, request)
	w.blamed(t, text, request)
	o := w.apply(t, text, request, mixedArchives(w.r, s.archives))
	if w.count("apply", o.Answer); o.Done > 0 && o.Done < o.Planned {
		w.counts["partly"]++
	}
	w.archives = slices.Concat(s.archives, w.archives)
}

// surround changes what is about the installer: how much room there is, when the power fails, what somebody else writes.
func (w *walk) surround() {
	used, r := w.d.Used(), w.r
	w.capacity(pick(r, room, room, room, room, room, room, used, used+api.Reserve+r.IntN(900), used+r.IntN(900)))
	if r.IntN(4) == 0 {
		w.fuse(pick(r, r.IntN(3), r.IntN(20)))
	} else {
		w.fuse(-1)
	}
	if r.IntN(25) > 0 || w.odd {
		return
	}
	w.odd = true
	w.counts["odd"]++
	name := pick(r, w.names...)
	change := pick(r,
		func(d *store.Store) { d.Write("t/"+name, []byte("odd")) },
		func(d *store.Store) { d.Remove("t/" + name) },
		func(d *store.Store) { d.Append("t/"+name, []byte("odd")) },
		func(d *store.Store) { d.Write("n/"+name, nil) },
	)
	w.both(change)
	w.both(func(d *store.Store) { d.Sync() })
}

// reopen lets the power come again, and opens what is there, however often that takes.
func (w *walk) reopen(t *testing.T) {
	t.Helper()
	w.counts["crash"]++
	state := w.m.x.State()
	for {
		var kept []int
		for range w.d.Pending() {
			kept = append(kept, w.r.IntN(5))
		}
		w.both(func(d *store.Store) { d.Crash(api.Choice{Kept: kept}) })
		if w.r.IntN(3) == 0 {
			w.fuse(w.r.IntN(4))
		}
		p, e := opened(t, "behind a crash", w.d, w.m.d)
		if e == api.OK {
			w.pair = p
			break
		}
		if e != api.ErrStoDead {
			t.Fatalf("P0.5: Open = %d", e)
		}
		w.counts["an Open that dies"]++
	}
	if w.f.Seq() < state.Seq || w.f.Seq() > state.Seq+1 {
		t.Fatalf("P0.5: %d was the last commit, and is %d", state.Seq, w.f.Seq())
	}
	calls := w.d.Calls()
	w.pair, _ = opened(t, "again", w.d, w.m.d)
	if w.d.Calls() != calls {
		t.Fatalf("P0.6: a second Open makes %d calls", w.d.Calls()-calls)
	}
	samples.Must(0, w.d.SetCapacity(room))
	samples.Must(0, w.m.d.SetCapacity(room))
}
