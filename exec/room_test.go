package exec_test

import (
	"fmt"
	"testing"

	"larder/api"
	"larder/samples"
)

// needs tells how many bytes a work stages, and how many its frame has.
func needs(s api.State, w api.Work) (staged, frame int) {
	for _, b := range w.Files {
		staged += len(b.Data)
	}
	for _, b := range w.Mend {
		staged += len(b.Data)
	}
	c := commitOf(s, w)
	c.Steps = stepsOf(s, w)
	return staged, len(frameOf(c))
}

// P18.4: with packages that come, or files that are laid anew, the Reserve is left behind the frame; one byte less is too little.
func TestReserve(t *testing.T) {
	t.Parallel()
	for _, text := range []string{"in ee 1", "in ee 1 a:", "in ee 1 a:12345678", "in ee 1 a:1; in ff 1 b:2 c:3", "out aa bb; in aa 2 x:2345", "out dd; in ee 1 u:7; mark aa", "mend p:1", "mend s:", "out bb; mend p:1 x:2", "in ee 1 a:1; mend p:1", "mark aa; mend p:1; group 3"} {
		d, states := play(base...)
		state := states[len(states)-1]
		w := samples.Work(text)
		staged, frame := needs(state, w)
		for _, c := range []struct {
			more int
			want api.Errno
		}{{0, api.OK}, {1, api.OK}, {-1, api.ErrExeFull}, {-api.Reserve, api.ErrExeFull}, {-api.Reserve - 1, api.ErrExeFull}, {-api.Reserve - frame, api.ErrExeFull}, {-api.Reserve - frame - 1, api.ErrExeFull}} {
			p := pairOf(t, d.Image(), d.Used()+staged+frame+api.Reserve+c.more)
			was := told(samples.Seen(p.d), p.x.State(), p.x.Frames())
			e := p.run(t, text, w)
			if e != c.want {
				t.Errorf("P18.4: %s, room for %d bytes beside the Reserve: Run = %d, want %d", text, c.more, e, c.want)
			}
			if e != api.OK && (told(samples.Seen(p.d), p.x.State(), p.x.Frames()) != was || p.d.Pending() > 0 || p.x.Dead()) {
				t.Errorf("P18.4: %s, room for %d bytes beside the Reserve: something is changed", text, c.more)
			}
		}
	}
}

// P18.4, P18.8: others have the Reserve too: they are refused only if there is no room for their frame.
func TestWithoutReserve(t *testing.T) {
	t.Parallel()
	for _, text := range []string{"out bb", "out aa bb cc dd", "mark aa", "mark aa bb; group 3", "out cc; mark aa"} {
		d, states := play(base...)
		w := samples.Work(text)
		_, frame := needs(states[len(states)-1], w)
		for _, c := range []struct {
			more int
			want api.Errno
		}{{0, api.OK}, {1, api.OK}, {-1, api.ErrExeFull}, {-frame, api.ErrExeFull}, {-frame - 1, api.ErrExeFull}} {
			p := pairOf(t, d.Image(), d.Used()+frame+c.more)
			was := told(samples.Seen(p.d), p.x.State(), p.x.Frames())
			if e := p.run(t, text, w); e != c.want || e != api.OK && told(samples.Seen(p.d), p.x.State(), p.x.Frames()) != was {
				t.Errorf("P18.8: %s, room for %d bytes more than the frame: Run = %d, want %d", text, c.more, e, c.want)
			}
		}
	}
}

// P18.4: all rooms about what is needed, with power for so many calls: as the oracle has it.
func TestRoomAgainstOracle(t *testing.T) {
	t.Parallel()
	d, states := play(base...)
	state := states[len(states)-1]
	counts := map[string]int{}
	for _, text := range []string{"out dd; in ee 1 a:12 b:345 c:; mend p:1 q:3", "in ee 1", "out aa bb", "mark aa", "mend p:1 s: x:2"} {
		w := samples.Work(text)
		staged, frame := needs(state, w)
		var rooms []int
		for more := -2; more <= staged+1; more++ {
			rooms = append(rooms, more)
		}
		for more := -1; more <= 1; more++ {
			rooms = append(rooms, frame+more, staged+frame+more, api.Reserve+more, staged+api.Reserve+more, frame+api.Reserve+more, staged+frame+api.Reserve+more)
		}
		for _, more := range rooms {
			for fuse := -1; fuse < 16; fuse++ {
				p := pairOf(t, d.Image(), d.Used()+more)
				p.fuse(fuse)
				e := p.run(t, fmt.Sprintf("%s, room for %d bytes, power for %d calls", text, more, fuse), w)
				counts[fmt.Sprint(int(e))]++
			}
		}
	}
	if counts["0"] < 100 || counts["143"] < 500 || counts["182"] < 200 {
		t.Errorf("works are answered %v", counts)
	}
}

// P18.4: what there is no room for goes when there is; behind a removal there is.
func TestRoomAgain(t *testing.T) {
	t.Parallel()
	p := pairOf(t, nil, 1000+api.Reserve)
	long := samples.Work("in aa 1 x:" + fmt.Sprintf("%0600d", 7))
	if e := p.run(t, "there is room", long); e != api.OK {
		t.Fatalf("P18.4: Run = %d", e)
	}
	other := samples.Work("in bb 1 y:" + fmt.Sprintf("%0600d", 8))
	for range 3 {
		if e := p.run(t, "there is none", other); e != api.ErrExeFull || p.x.State().Seq != 1 || p.x.Frames() != 1 {
			t.Errorf("P18.4: Run = %d", e)
		}
	}
	if e := p.run(t, "a removal", samples.Work("out aa")); e != api.OK {
		t.Errorf("P18.8: Run = %d", e)
	}
	p.capacity(1300 + api.Reserve)
	if e := p.run(t, "there is room again", other); e != api.OK || p.x.State().Seq != 3 {
		t.Errorf("P18.4: Run = %d", e)
	}
}

// P18.5: a checkpoint with and without room: as the oracle has it, with power for so many calls.
func TestCheckpointRoom(t *testing.T) {
	t.Parallel()
	counts := map[string]int{}
	for _, lines := range [][]string{nil, base, {"in zz 1", "checkpoint", "out zz"}, {"in aa 1 x:1", "checkpoint"}} {
		d, states := play(lines...)
		size := len(pointOf(states[len(states)-1]))
		for _, more := range []int{-1, 0, size - 1, size, size + 1, room} {
			for fuse := -1; fuse < 8; fuse++ {
				p := pairOf(t, d.Image(), d.Used()+max(more, -d.Used()))
				frames := p.x.Frames()
				p.fuse(fuse)
				what := fmt.Sprintf("%q, room for %d bytes, power for %d calls", lines, more, fuse)
				e := p.checkpoint(t, what)
				if more >= size && e == api.OK && (p.x.Frames() != 0 || there(p.d, "d/journal") || told(samples.Seen(p.d)["d/status"]) != told(string(pointOf(p.m.state)))) {
					t.Errorf("P18.5: %s: %d frames", what, p.x.Frames())
				}
				if more < size && (e != api.OK || p.x.Frames() != frames || p.d.Calls() > 0) {
					t.Errorf("P18.5: %s: Checkpoint = %d, %d frames, %d calls", what, e, p.x.Frames(), p.d.Calls())
				}
				if e == api.ErrStoDead && (p.x.Frames() != frames || !p.x.Dead()) {
					t.Errorf("P18.5: %s: without power %d frames", what, p.x.Frames())
				}
				counts[fmt.Sprint(int(e))]++
				if e == api.OK {
					p.capacity(room)
					p.fuse(-1)
					p.run(t, what, samples.Work("in yy 1 y:1"))
				}
			}
		}
	}
	if counts["0"] < 100 || counts["143"] < 40 {
		t.Errorf("checkpoints are answered %v", counts)
	}
}

// P18.5: a new checkpoint that was left in the store (by nobody that the document knows) is removed where there is no room for another.
func TestCheckpointLeft(t *testing.T) {
	t.Parallel()
	d, _ := play(base...)
	for fuse := -1; fuse < 4; fuse++ {
		p := pairOf(t, d.Image(), room)
		p.d.Write("d/status.new", []byte("left"))
		p.m.d.Write("d/status.new", []byte("left"))
		p.capacity(p.d.Used())
		p.fuse(fuse)
		if e := p.checkpoint(t, fmt.Sprintf("a new one is there, power for %d calls", fuse)); e == api.OK && (there(p.d, "d/status.new") || p.x.Frames() != 4) {
			t.Errorf("P18.5: Checkpoint = %d, %d frames", e, p.x.Frames())
		}
	}
}
