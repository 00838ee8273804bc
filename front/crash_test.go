package front_test

import (
	"strings"
	"testing"

	"larder/api"
	"larder/front"
	"larder/samples"
	"larder/status"
	"larder/store"
)

// life is a call that changes something, over what a store holds.
type life struct {
	what  string
	image []api.Blob
	call  func(f *front.Front) (dead bool, done int)
	works func(m model) []api.Work
}

// outcome tells an outcome as a life does.
func outcome(o api.Outcome) (bool, int) { return o.Answer == api.AnswerPower, o.Done }

// single does the same with an error.
func single(e api.Errno) (bool, int) { return e == api.ErrStoDead, 0 }

// lives are calls of each kind, of one work and of several, over short journals and long ones.
func lives(t *testing.T) []life {
	t.Helper()
	p, s := among(t, "aa 1 depends=bb x:hi y:ho; bb 1 z:zz auto; cc 1 auto")
	long, _ := among(t, "aa 1 depends=bb x:hi y:ho; bb 1 z:zz auto; cc 1 auto")
	long.marks(t, "cc", 60)
	new := stocked("aa 2 pre=bb(>=2) x:hey; bb 2 w:w z:zzz")
	wish := asks("install aa(>=2); install cc")
	goal := func(m model) []api.Held {
		goal, _ := m.aim(new.index, wish)
		return goal
	}
	works := func(goal func(m model) []api.Held) func(m model) []api.Work {
		return func(m model) []api.Work {
			_, works, _ := m.works(goal(m))
			return works
		}
	}
	apply := func(f *front.Front) (bool, int) { return outcome(f.Apply(new.index, wish, new.archives)) }
	undo := func(f *front.Front) (bool, int) { return outcome(f.Undo(s.archives)) }
	sweep := func(f *front.Front) (bool, int) { return outcome(f.Sweep([]string{"bb"})) }
	swept := works(func(m model) []api.Held { return m.x.State().Held[:2] })
	back := works(func(m model) []api.Held { return m.x.State().Before })
	undone := pairOf(t, p.d.Image(), room)
	carried(t, undone.apply(t, new.index, wish, new.archives))
	broken := pairOf(t, p.d.Image(), room)
	broken.both(func(d *store.Store) { d.Remove("t/x") })
	broken.both(func(d *store.Store) { d.Sync() })
	return []life{
		{"Apply", p.d.Image(), apply, works(goal)},
		{"Apply behind many frames", long.d.Image(), apply, works(goal)},
		{"Sweep", p.d.Image(), sweep, swept},
		{"Sweep behind many frames", long.d.Image(), sweep, swept},
		{"Undo", undone.d.Image(), undo, back},
		{"Mark", p.d.Image(), func(f *front.Front) (bool, int) { return single(f.Mark("cc", api.MarkManual)) },
			func(m model) []api.Work { return []api.Work{{Group: m.x.State().Group, Marks: []string{"cc"}}} }},
		{"Repair", broken.d.Image(), func(f *front.Front) (bool, int) {
			_, e := f.Repair(s.archives)
			return single(e)
		}, func(m model) []api.Work { return []api.Work{{Group: m.x.State().Group}} }},
	}
}

// behind tells what an installer tells of its state behind the first works of a plan, for each number of them.
func behind(s api.State, works []api.Work) []string {
	list := []string{told(s.Held, s.Seq, s.Past)}
	for _, w := range works {
		s = samples.Must(status.Apply(s, api.Commit{Seq: s.Seq + 1, Group: w.Group, Out: w.Out, In: w.In, Marks: w.Marks}))
		list = append(list, told(s.Held, s.Seq, s.Past))
	}
	return list
}

// choices tells what crashes may keep of so many operations: of few each choice, of many some.
func choices(operations int) []api.Choice {
	var list []api.Choice
	if operations <= 4 {
		for _, kept := range samples.Lists([]int{0, 1, 3}, operations) {
			if len(kept) == operations {
				list = append(list, api.Choice{Kept: kept})
			}
		}
		return list
	}
	for place := range operations {
		one, but := make([]int, operations), make([]int, operations)
		for i := range operations {
			one[i], but[i] = 0, 1
		}
		one[place], but[place] = 1+place%3, 0
		list = append(list, api.Choice{Kept: one}, api.Choice{Kept: but})
	}
	return list
}

// P0.5, P0.6: power that fails at each call, and in the Opens behind it, whatever the crashes keep.
func TestCrashes(t *testing.T) {
	t.Parallel()
	for _, l := range lives(t) {
		t.Run(l.what, func(t *testing.T) {
			t.Parallel()
			m := pairOf(t, l.image, room).m
			works := l.works(m)
			states := behind(m.x.State(), works)
			for fuse := 0; ; fuse++ {
				dead, _, pending := struck(l, fuse)
				if !dead {
					if fuse < 4*len(works) {
						t.Errorf("%d calls of %d works", fuse, len(works))
					}
					return
				}
				for i, c := range choices(pending) {
					_, done, _, d := strike(l, fuse, c)
					recovered(t, l.what, d, states, done, l.what == "Repair")
					if i%5 == fuse%5 { // enough of them, for the sake of time
						recoveredTwice(t, l.what, d, states, done, l.what == "Repair")
					}
				}
			}
		})
	}
}

// struck tells what a call answers when the power fails in it, and how many operations are pending then.
func struck(l life, fuse int) (dead bool, done, pending int) {
	dead, done, pending, _ = strike(l, fuse, api.Choice{})
	return dead, done, pending
}

// strike makes the power fail at a changing call of a life, and then a crash.
func strike(l life, fuse int, c api.Choice) (dead bool, done, pending int, d *store.Store) {
	d = samples.Must(store.Load(l.image, room))
	f := samples.Must(front.Open(d))
	d.Fuse(fuse)
	dead, done = l.call(f)
	pending = d.Pending()
	d.Crash(c)
	return dead, done, pending, d
}

// recovered holds what an Open finds behind a crash.
func recovered(t *testing.T, what string, d *store.Store, states []string, done int, mends bool) {
	t.Helper()
	d = samples.Must(store.Load(d.Image(), room))
	f, e := front.Open(d)
	if f == nil || e != api.OK {
		t.Fatalf("P0.5: %s: Open = %v, %d", what, f != nil, e)
	}
	got := told(f.Query(), f.Seq(), f.History())
	is := false
	for i, state := range states {
		is = is || i >= done && got == state
	}
	if !is {
		t.Fatalf("P0.5: %s: %d works are done, and the state is %s", what, done, got)
	}
	p := pair{f: f, d: d}
	if wrong, e := f.Audit(); mends && e == api.OK && len(wrong) == 1 && wrong[0].Path == "x" && got == states[0] {
		samples.Must(0, d.Write("t/x", []byte("hi")))
		samples.Must(0, d.Sync())
	}
	p.whole(t, what)
	seen := samples.Told(d)
	f, e = front.Open(d)
	if f == nil || e != api.OK || samples.Told(d) != seen || told(f.Query(), f.Seq(), f.History()) != got {
		t.Fatalf("P0.6: %s: a second Open = %v, %d, and leaves %q", what, f != nil, e, samples.Seen(d))
	}
}

// recoveredTwice lets the power fail at each call of an Open too, and in the one behind it.
func recoveredTwice(t *testing.T, what string, d *store.Store, states []string, done int, mends bool) {
	t.Helper()
	image := d.Image()
	for fuse := 0; ; fuse++ {
		broken := func(c api.Choice) (*store.Store, bool, int) {
			d := samples.Must(store.Load(image, room))
			d.Fuse(fuse)
			_, e := front.Open(d)
			pending := d.Pending()
			d.Crash(c)
			return d, e == api.ErrStoDead, pending
		}
		d, dead, pending := broken(api.Choice{})
		if !dead {
			return
		}
		recovered(t, what+", and an Open", d, states, done, mends)
		for _, c := range choices(min(pending, 2)) {
			d, _, _ := broken(c)
			recovered(t, what+", and an Open", d, states, done, mends)
			d.Fuse(1)
			front.Open(d)
			d.Crash(api.Choice{Kept: []int{0, 1}})
			recovered(t, what+", and two Opens", d, states, done, mends)
		}
	}
}

// P23.5: Done is of the works that went through, and what a crash behind them keeps may be one more.
func TestDoneBehindPower(t *testing.T) {
	t.Parallel()
	all := stocked("aa 1 depends=bb x:" + strings.Repeat("a", 9) + "; bb 1 depends=cc y:b; cc 1 z:c")
	seen := map[int]int{}
	for fuse := 0; ; fuse++ {
		p := newPair(t)
		p.fuse(fuse)
		o := p.apply(t, all.index, asks("install aa"), all.archives)
		if o.Answer == api.AnswerOk {
			break
		}
		if o != (api.Outcome{Answer: api.AnswerPower, Done: fuse / 6, Planned: 3}) {
			t.Errorf("P23.5: the power fails at the call %d: %+v", fuse, o)
		}
		if got, want := states(p.f.Query()), []string{"", "cc=1/1", "bb=1/1 cc=1/1"}[o.Done]; got != want {
			t.Errorf("P23.11: the power fails at the call %d: %q, want %q", fuse, got, want)
		}
		seen[o.Done]++
	}
	if len(seen) != 3 || seen[0] != 6 || seen[1] != 6 || seen[2] != 6 {
		t.Errorf("P23.5: %v", seen)
	}
}
