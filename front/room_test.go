package front_test

import (
	"strings"
	"testing"

	"larder/api"
	"larder/journal"
	"larder/samples"
	"larder/status"
	"larder/store"
)

// capacity sets the capacity of both stores.
func (p pair) capacity(n int) { p.both(func(d *store.Store) { d.SetCapacity(n) }) }

// fuse lays a fuse on both stores.
func (p pair) fuse(n int) { p.both(func(d *store.Store) { d.Fuse(n) }) }

// frames tells how many frames lie on the store.
func (p pair) frames() int {
	data, _ := p.d.Read("d/journal")
	bodies, _ := journal.Decode(data)
	return len(bodies)
}

// P23.5: a store with room for nothing, for the first batches alone, for all.
func TestRoom(t *testing.T) {
	t.Parallel()
	all := stocked("aa 1 depends=bb x:" + strings.Repeat("a", 40) + "; bb 1 depends=cc y:" + strings.Repeat("b", 700) + "; cc 1 z:c")
	behind := []string{"", "cc=1/1", "bb=1/1 cc=1/1", "aa=1/0 bb=1/1 cc=1/1"}
	seen := map[int]int{}
	last := -1
	for capacity := 0; capacity < api.Reserve+3000; capacity += 13 {
		if capacity > 2000 && capacity < api.Reserve-100 {
			continue
		}
		p := pairOf(t, nil, capacity)
		o := p.apply(t, all.index, asks("install aa"), all.archives)
		want := api.Outcome{Answer: api.AnswerFull, Done: o.Done, Planned: 3}
		if o.Done == 3 {
			want = ok(3)
		}
		p.expect(t, "P23.5: Apply", o, want, behind[min(o.Done, 3)])
		if o.Done < last {
			t.Errorf("P23.5: with room for %d: %d done, with less %d", capacity, o.Done, last)
		}
		last = o.Done
		seen[o.Done]++
		// What was carried out stays, and what had no room comes when there is some.
		p.capacity(room)
		p.expect(t, "P23.5: Apply with room", p.apply(t, all.index, asks("install aa"), all.archives), ok(3-o.Done), behind[3])
	}
	for done := range 4 {
		if seen[done] < 3 {
			t.Errorf("%d of 3: %d times", done, seen[done])
		}
	}
}

// P23.5: a Full behind batches that went is still one change: an Undo takes all of it back.
func TestUndoBehindFull(t *testing.T) {
	t.Parallel()
	all := stocked("aa 1 depends=bb x:" + strings.Repeat("a", 5000) + "; bb 1 y:b; dd 1")
	p := pairOf(t, nil, api.Reserve+2000)
	carried(t, p.apply(t, all.index, asks("install dd"), all.archives))
	p.expect(t, "Apply", p.apply(t, all.index, asks("install aa"), all.archives), api.Outcome{Answer: api.AnswerFull, Done: 1, Planned: 2}, "bb=1/1 dd=1/0")
	p.expect(t, "P23.8: Undo", p.undo(t, nil), ok(1), "dd=1/0")
	p.expect(t, "P23.8: Undo of it", p.undo(t, all.archives), ok(1), "bb=1/1 dd=1/0")
}

// P23.5: what makes room, where there is none.
func TestRemovalsWithoutRoom(t *testing.T) {
	t.Parallel()
	p, s := among(t, "aa 1 x:hi; bb 1 depends=aa y:ho auto; cc 1 auto")
	p.capacity(p.d.Used() + 300)
	p.expect(t, "P23.5: an install", p.apply(t, stocked("dd 1").index, asks("install dd"), stocked("dd 1").archives), api.Outcome{Answer: api.AnswerFull, Planned: 1}, "aa=1/0 bb=1/1 cc=1/1")
	p.expect(t, "P23.7: Sweep", p.sweep(t, "bb"), ok(1), "aa=1/0 bb=1/1")
	p.capacity(p.d.Used())
	p.expect(t, "P23.7: Sweep without any room", p.sweep(t), api.Outcome{Answer: api.AnswerFull, Planned: 1}, "aa=1/0 bb=1/1")
	p.expect(t, "P23.8: Undo without any room", p.undo(t, s.archives), api.Outcome{Answer: api.AnswerFull, Planned: 1}, "aa=1/0 bb=1/1")
	if e := p.mark(t, "aa", api.MarkAuto); e != api.ErrExeFull {
		t.Errorf("P23.9: Mark without any room = %d", e)
	}
	p.both(func(d *store.Store) {
		d.Write("t/x", []byte("h"))
		d.Write("t/stray", nil)
	})
	left, e := p.repair(t, s.archives)
	if left != nil || e != api.ErrExeFull {
		t.Errorf("P23.10: Repair without any room = %v, %d", left, e)
	}
}

// marks turns a mark so many times.
func (p pair) marks(t *testing.T, name string, times int) {
	t.Helper()
	for range times {
		mark := api.MarkAuto
		for _, h := range p.f.Query() {
			if h.Name == name && h.Mark == mark {
				mark = api.MarkManual
			}
		}
		samples.Must(0, p.mark(t, name, mark))
	}
}

// P23.5: a journal of more than 64 frames is let go ahead of an Apply, a Sweep, an Undo; of no other call, nor where nothing is to be done.
func TestFrames(t *testing.T) {
	t.Parallel()
	all := stocked("aa 1 x:hi; bb 1 y:ho; cc 1")
	grown := func(frames int) pair {
		p := newPair(t)
		carried(t, p.apply(t, all.index, asks("install aa"), all.archives))
		carried(t, p.apply(t, all.index, asks("install cc"), all.archives))
		p.marks(t, "cc", frames-2)
		if p.frames() != frames {
			t.Fatalf("%d frames, want %d", p.frames(), frames)
		}
		return p
	}
	install := func(p pair) api.Outcome { return p.apply(t, all.index, asks("install bb"), all.archives) }
	calls := map[string]func(p pair) api.Outcome{
		"Apply": install,
		"Sweep": func(p pair) api.Outcome { return p.sweep(t) },
		"Undo":  func(p pair) api.Outcome { return p.undo(t, nil) },
	}
	for what, call := range calls {
		p := grown(65)
		carried(t, call(p))
		if p.frames() != 1 || samples.Seen(p.d)["d/status"] == "" {
			t.Errorf("P23.5: %s behind 65 frames leaves %d", what, p.frames())
		}
		p.whole(t, what)
		p = grown(64)
		if carried(t, install(p)); p.frames() != 65 {
			t.Errorf("P23.5: Apply behind 64 frames leaves %d", p.frames())
		}
		samples.Must(0, p.mark(t, "cc", api.MarkAuto))
		if what == "Undo" {
			samples.Must(0, p.mark(t, "cc", api.MarkManual))
		}
		carried(t, call(p))
		want := 1
		if what == "Apply" { // nothing is left to do
			want = 66
		}
		if p.frames() != want {
			t.Errorf("P23.5: %s behind them leaves %d, want %d", what, p.frames(), want)
		}
	}
	p := grown(64)
	three := stocked("dd 1 depends=ee; ee 1 depends=ff; ff 1")
	if carried(t, p.apply(t, three.index, asks("install dd"), three.archives)); p.frames() != 67 {
		t.Errorf("P23.5: three works behind 64 frames leave %d", p.frames())
	}
	p = grown(66)
	p.both(func(d *store.Store) { d.Write("t/x", []byte("h")) })
	if left, e := p.repair(t, all.archives); len(left) > 0 || e != api.OK || p.frames() != 67 {
		t.Errorf("P23.10: Repair = %v, %d, and leaves %d frames", left, e, p.frames())
	}
	for _, r := range []string{"install zz", "install aa; remove aa", "install aa"} {
		p.apply(t, all.index, asks(r), all.archives)
	}
	p.apply(t, all.index, asks("install bb"), nil)
	if p.frames() != 67 {
		t.Errorf("P0.4: what was refused leaves %d frames", p.frames())
	}
	// What an installer finds counts as what it makes.
	p = pairOf(t, p.d.Image(), room)
	p.expect(t, "P23.5: Apply behind an Open", install(p), ok(1), "aa=1/0 bb=1/0 cc=1/0")
	if p.frames() != 1 {
		t.Errorf("P23.5: Apply behind an Open leaves %d frames", p.frames())
	}
}

// P23.5: a checkpoint without room is let go; one in which the power fails is Power, and nothing is done.
func TestCheckpointsThatFail(t *testing.T) {
	t.Parallel()
	p, _ := among(t, "aa 1 x:hi; bb 1 y:ho")
	p.marks(t, "aa", 64)
	image := p.d.Image()
	p = pairOf(t, image, room)
	p.capacity(p.d.Used() + 200)
	p.expect(t, "P23.5: without room", p.apply(t, nil, asks("remove bb"), nil), ok(1), "aa=1/0")
	if p.frames() != 67 {
		t.Errorf("P23.5: %d frames", p.frames())
	}
	for fuse := range 6 {
		p = pairOf(t, image, room)
		p.fuse(fuse)
		o := p.apply(t, stocked("cc 1 depends=dd; dd 1").index, asks("remove bb; install cc"), stocked("cc 1 depends=dd; dd 1").archives)
		if o != (api.Outcome{Answer: api.AnswerPower, Planned: 3}) {
			t.Errorf("P23.5: the power fails at the call %d: %+v", fuse, o)
		}
		p.both(func(d *store.Store) { d.Crash(api.Choice{Kept: []int{1, 1}}) })
		q, e := opened(t, "a checkpoint in part", p.d, p.m.d)
		if e != api.OK || states(q.f.Query()) != "aa=1/0 bb=1/0" {
			t.Errorf("P0.5: the power fails at the call %d: Open %d, %q", fuse, e, states(q.f.Query()))
		}
		q.whole(t, "a checkpoint in part")
	}
}

// P23.5: what exec refuses ahead of all: the numbers of commits are at their end.
func TestLastNumber(t *testing.T) {
	t.Parallel()
	aa := stocked("aa 1 x:hi auto")
	body := samples.Must(status.Encode(api.State{Seq: api.MaxSeq, Group: 7, Held: []api.Held{aa.held[0]}}))
	image := []api.Blob{{Name: "d/status", Data: samples.Must(journal.Encode(body))}, {Name: "t/x", Data: []byte("hi")}}
	p := pairOf(t, image, room)
	refused := api.Outcome{Answer: api.AnswerRefused, Why: api.ErrExeLong}
	both := stocked("bb 1 y:ho")
	p.expect(t, "P23.5: an install", p.apply(t, both.index, asks("install bb"), both.archives), refused, "aa=1/1")
	p.expect(t, "P23.4: an install without its archive", p.apply(t, both.index, asks("install bb"), nil), api.Outcome{Answer: api.AnswerArchive, Who: api.Key{Name: "bb", Version: "1"}}, "aa=1/1")
	p.expect(t, "P23.5: a removal", p.apply(t, nil, asks("remove aa"), nil), refused, "aa=1/1")
	p.expect(t, "P23.5: a mark", p.apply(t, nil, asks("install aa"), nil), refused, "aa=1/1")
	p.expect(t, "P23.5: nothing", p.apply(t, nil, asks("hold aa"), nil), ok(0), "aa=1/1")
	p.expect(t, "P23.7: Sweep", p.sweep(t), refused, "aa=1/1")
	p.expect(t, "P23.8: Undo", p.undo(t, nil), refused, "aa=1/1")
	if batches, o := p.plan(t, nil, asks("remove aa")); len(batches) != 1 || o.Answer != api.AnswerOk {
		t.Errorf("P23.6: Plan = %v, %+v", batches, o)
	}
	if e := p.mark(t, "aa", api.MarkManual); e != api.ErrExeLong {
		t.Errorf("P23.9: Mark = %d", e)
	}
	p.both(func(d *store.Store) { d.Write("t/x", []byte("h")) })
	if left, e := p.repair(t, aa.archives); left != nil || e != api.ErrExeLong {
		t.Errorf("P23.10: Repair = %v, %d", left, e)
	}
	if len(p.d.Image()) != 2 {
		t.Errorf("the store is %q", samples.Seen(p.d))
	}
}
