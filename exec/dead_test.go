package exec_test

import (
	"fmt"
	"testing"

	"larder/api"
	"larder/exec"
	"larder/samples"
	"larder/store"
)

// holdOver holds that an Exec is over, whatever its store is.
func holdOver(t *testing.T, what string, x *exec.Exec, d *store.Store, state api.State, frames int) {
	t.Helper()
	was := samples.Told(d)
	for _, works := range [][]api.Work{nil, {samples.Work("mark aa")}, {samples.Work("out zz")}} {
		if e := x.Check(works); e != api.ErrStoDead {
			t.Errorf("P18.3: %s: Check = %d", what, e)
		}
	}
	for _, w := range []api.Work{samples.Work("mark aa"), samples.Work("out zz"), {}} {
		if e := x.Run(w); e != api.ErrStoDead {
			t.Errorf("P18.4: %s: Run = %d", what, e)
		}
	}
	if e := x.Checkpoint(); e != api.ErrStoDead {
		t.Errorf("P18.5: %s: Checkpoint = %d", what, e)
	}
	if !x.Dead() || x.Frames() != frames || told(x.State()) != told(state) || samples.Told(d) != was {
		t.Errorf("P18.2: %s: Dead = %v, %d frames, want %d, or another state", what, x.Dead(), x.Frames(), frames)
	}
}

// P18.2 to P18.5: the power fails in a call: the Exec is over, also when there is power again.
func TestOver(t *testing.T) {
	t.Parallel()
	d, states := play(base...)
	state := states[len(states)-1]
	for _, c := range []struct {
		what     string
		capacity int
		do       func(x *exec.Exec) api.Errno
		want     api.Errno // with enough power
		calls    int
		frame    int // behind which call there is one frame more
	}{
		{"a batch", room, func(x *exec.Exec) api.Errno { return x.Run(samples.Work("out dd; in ee 1 a:1; mend p:1")) }, api.OK, 9, 3},
		{"a batch without room", api.Reserve, func(x *exec.Exec) api.Errno { return x.Run(samples.Work("in ee 1 a:1; mend p:1")) }, api.ErrExeFull, 6, 99},
		{"a batch without room for its files", d.Used(), func(x *exec.Exec) api.Errno { return x.Run(samples.Work("in ee 1 a:; mend p:1")) }, api.ErrExeFull, 3, 99},
		{"a mark", room, func(x *exec.Exec) api.Errno { return x.Run(samples.Work("mark aa")) }, api.OK, 4, 1},
		{"a mark without room", 0, func(x *exec.Exec) api.Errno { return x.Run(samples.Work("mark aa")) }, api.ErrExeFull, 2, 99},
		{"a checkpoint", room, func(x *exec.Exec) api.Errno { return x.Checkpoint() }, api.OK, 6, 99},
	} {
		for fuse := range c.calls {
			disk := samples.Must(store.Load(d.Image(), c.capacity))
			x := samples.Must(exec.Open(disk))
			disk.Fuse(fuse)
			frames := 4
			if fuse > c.frame {
				frames = 5
			}
			what := fmt.Sprintf("%s, power for %d calls", c.what, fuse)
			if e := c.do(x); e != api.ErrStoDead {
				t.Errorf("P18.4: %s: %d", what, e)
			}
			holdOver(t, what, x, disk, state, frames)
			disk.Crash(api.Choice{Kept: []int{1, 1, 1, 1}})
			holdOver(t, what+", with power again", x, disk, state, frames)
			if _, e := exec.Open(disk); e != api.OK {
				t.Errorf("P18.1: %s: Open = %d", what, e)
			}
			holdOver(t, what+", with another one over its store", x, disk, state, frames)
		}
		disk := samples.Must(store.Load(d.Image(), c.capacity))
		x := samples.Must(exec.Open(disk))
		disk.Fuse(c.calls)
		if e := c.do(x); e != c.want || x.Dead() || x.Check(nil) != api.OK {
			t.Errorf("P18.4: %s with enough power: %d", c.what, e)
		}
	}
}

// P18.2: the power fails where nobody of exec is at work: the Exec is dead as long as its store is.
func TestDeadStore(t *testing.T) {
	t.Parallel()
	d, states := play(base...)
	x := samples.Must(exec.Open(d))
	d.Fuse(0)
	d.Sync()
	holdOver(t, "a store without power", x, d, states[4], 4)
	d.Crash(api.Choice{})
	if x.Dead() || x.Check([]api.Work{samples.Work("mark aa")}) != api.OK || x.Frames() != 4 {
		t.Error("P18.2: with power again the Exec is dead")
	}
	if e := x.Run(samples.Work("mark aa")); e != api.OK || x.State().Seq != 5 {
		t.Errorf("P18.4: with power again: Run = %d", e)
	}
	if e := x.Checkpoint(); e != api.OK || x.Frames() != 0 {
		t.Errorf("P18.5: with power again: Checkpoint = %d", e)
	}
}

// P18.4: a fuse that is not burnt down in a call that is refused, or that asks only.
func TestFuseLasts(t *testing.T) {
	t.Parallel()
	d, _ := play(base...)
	x := samples.Must(exec.Open(d))
	d.Fuse(0)
	for _, c := range faultCases() {
		if c.want == api.OK {
			continue
		}
		if e := x.Run(c.w); e != c.want {
			t.Errorf("P18.4: %s: Run = %d, want %d", c.what, e, c.want)
		}
	}
	x.Check([]api.Work{samples.Work("mark aa")})
	x.State()
	x.Frames()
	if _, e := exec.Open(d); e != api.OK || x.Dead() {
		t.Errorf("P18.1: Open with nothing to do = %d", e)
	}
	if e := x.Run(samples.Work("mark aa")); e != api.ErrStoDead || !x.Dead() {
		t.Errorf("P18.4: Run = %d", e)
	}
}
