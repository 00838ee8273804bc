package exec_test

import (
	"fmt"
	"slices"
	"strconv"
	"strings"
	"testing"

	"larder/api"
	"larder/exec"
	"larder/installed"
	"larder/samples"
	"larder/status"
	"larder/store"
	"larder/tree"
)

// holdWhole is what P18.7 says of a store behind a crash, with no room at all: Open answers one of the states from least to most, and all is that state's; it tells which.
func holdWhole(t *testing.T, what string, d *store.Store, states []api.State, least, most int) (*exec.Exec, int) {
	t.Helper()
	capacity := d.Capacity()
	d.SetCapacity(0)
	x, e := exec.Open(d)
	if e != api.OK {
		t.Fatalf("P18.7: %s: Open = %d", what, e)
	}
	at := slices.IndexFunc(states, func(s api.State) bool { return status.Same(s, x.State()) })
	if at < least || at > most {
		t.Fatalf("P18.7: %s: the state is that behind %d works, want %d to %d", what, at, least, most)
	}
	holdTree(t, what, d, states[at])
	calls := d.Calls()
	again, e := exec.Open(d)
	if e != api.OK || d.Calls() != calls || d.Pending() > 0 || !status.Same(again.State(), x.State()) || again.Frames() != x.Frames() {
		t.Fatalf("P18.7: %s: a second Open = %d, with %d calls, %d pending", what, e, d.Calls()-calls, d.Pending())
	}
	d.SetCapacity(capacity)
	return x, at
}

// holdTree holds that a store has just the files of a state, and nothing that is left over.
func holdTree(t *testing.T, what string, d *store.Store, s api.State) {
	t.Helper()
	missing, changed, extra, e := tree.Differ(d, samples.Must(tree.Manifest(installed.Packages(s.Held))))
	if e != api.OK || len(missing)+len(changed)+len(extra) > 0 {
		t.Fatalf("P18.7: %s: the tree lacks %q, has changed %q, has %q besides", what, missing, changed, extra)
	}
	for name := range d.Names("") {
		if !strings.HasPrefix(name, "t/") && name != "d/status" && name != "d/journal" {
			t.Fatalf("P18.7: %s: %s is left", what, name)
		}
	}
}

// story is lines that are played: works, `checkpoint`, and `room N`: so many bytes are left from then on. Those behind a `?` are refused.
type story []string

var stories = []story{
	{"in aa 1 p:1 x:2", "in bb 1 depends=aa auto q:345", "out aa; in aa 2 r:4 x:5; mark bb; group 2", "checkpoint", "out bb; mend r:4", "checkpoint", "in bb 1 q:6; in cc 1 c:", "out aa bb cc"},
	{"checkpoint", "in aa 1", "mark aa", "? out zz", "room 99", "? in bb 1 y:2", "? in bb 1 y:" + strings.Repeat("3", 100), "mark aa; group 2", "checkpoint", "room 1000000", "in bb 1 y:2", "? in cc 1 y:3", "out aa bb; in aa 1 y:3"},
	{"in aa 1 a:1 b:2 c:3 d:4; in bb 1 e:5", "out aa; in aa 1 a:1 b:2 c:3 d:4; mend e:5", "out bb; in cc 1 e:7 f:8", "room 300", "? mend a:1", "checkpoint", "? in dd 1 g:9", "out aa cc"},
}

// plan tells a story's states, the one ahead of all first.
func (s story) plan() []api.State {
	m := samples.Must(modelOpen(samples.Must(store.New(api.MaxCapacity))))
	states := []api.State{m.state}
	for _, line := range s {
		if isWork(line) {
			samples.Must(0, m.run(samples.Work(line)))
			states = append(states, m.state)
		}
	}
	return states
}

// isWork tells whether a line is a work that goes through.
func isWork(line string) bool {
	return line != "checkpoint" && !strings.HasPrefix(line, "room ") && !strings.HasPrefix(line, "? ")
}

// from tells what of a story is left behind so many works.
func (s story) from(works int) story {
	for i, line := range s {
		if works == 0 {
			return s[i:]
		}
		if isWork(line) {
			works--
		}
	}
	return nil
}

// play plays it till the power goes: how many works were answered OK, and whether it went.
func (s story) play(t *testing.T, what string, d *store.Store, x *exec.Exec) (int, bool) {
	t.Helper()
	done := 0
	for _, line := range s {
		e, isWrong := api.OK, false
		text, refused := strings.CutPrefix(line, "? ")
		if bytes, is := strings.CutPrefix(line, "room "); is {
			left, _ := strconv.Atoi(bytes)
			d.SetCapacity(d.Used() + left)
		} else if line == "checkpoint" {
			e = x.Checkpoint()
			isWrong = e != api.OK
		} else {
			e = x.Run(samples.Work(text))
			isWrong = refused == (e == api.OK)
		}
		if e == api.ErrStoDead {
			return done, true
		}
		if isWrong {
			t.Fatalf("P18.4: %s: %q is answered %d", what, line, e)
		}
		if isWork(line) {
			done++
		}
	}
	return done, false
}

// P18.7: stories without crashes: the states, the tree.
func TestStories(t *testing.T) {
	t.Parallel()
	for i, s := range stories {
		states := s.plan()
		d := samples.Must(store.New(room))
		x := samples.Must(exec.Open(d))
		done, dead := s.play(t, "a story", d, x)
		if done != len(states)-1 || dead || !status.Same(x.State(), states[done]) || d.Pending() > 0 {
			t.Fatalf("P18.7: the story %d: %d works, %v", i, done, dead)
		}
		holdTree(t, "a story", d, x.State())
		holdWhole(t, "a story", d, states, done, done)
	}
}

// choices tells what crashes keep of what is pending.
func choices() [][]int {
	return append(samples.Lists([]int{0, 1, 3}, 3), []int{1, 1, 1, 1, 1, 1, 1, 1}, []int{0, 0, 0, 0, 1, 1, 1}, []int{0, 1, 0, 1, 0, 1, 0, 1}, []int{2, 2, 2, 2, 2, 2}, []int{40}, []int{99, 9, 9, 9})
}

// stop is a place in a story at which the power goes: ahead of its line the store had this image and capacity, and so many works were done; within the line so many calls are.
type stop struct {
	image                      []api.Blob
	capacity, done, line, fuse int
}

// stops tells all places in a story at which the power may go, by rising numbers of calls.
func (s story) stops(t *testing.T) []stop {
	var list []stop
	d := samples.Must(store.New(room))
	x := samples.Must(exec.Open(d))
	done := 0
	for line := range s {
		at := stop{image: d.Image(), capacity: d.Capacity(), done: done, line: line}
		calls := d.Calls()
		more, _ := s[line:line+1].play(t, "a story", d, x)
		for at.fuse = range d.Calls() - calls {
			list = append(list, at)
		}
		done += more
	}
	return list
}

// cutOff plays the line in which the power goes; the store is told, and the Exec.
func (s story) cutOff(t *testing.T, at stop) (*store.Store, *exec.Exec) {
	t.Helper()
	d := samples.Must(store.Load(at.image, at.capacity))
	x := samples.Must(exec.Open(d))
	d.Fuse(at.fuse)
	if done, dead := s[at.line:at.line+1].play(t, "a line", d, x); done > 0 || !dead {
		t.Fatalf("P18.4: %q, power for %d calls: the power does not go", s[at.line], at.fuse)
	}
	return d, x
}

// P18.4, P18.7: the power goes at each changing call of a story that is played by one Exec.
func TestStoriesCutOff(t *testing.T) {
	t.Parallel()
	for i, s := range stories {
		states := s.plan()
		for fuse, at := range s.stops(t) {
			what := fmt.Sprintf("the story %d, power for %d calls", i, fuse)
			d := samples.Must(store.New(room))
			x := samples.Must(exec.Open(d))
			d.Fuse(fuse)
			done, dead := s.play(t, what, d, x)
			if done != at.done || !dead || !x.Dead() || !status.Same(x.State(), states[done]) {
				t.Fatalf("P18.4: %s: %d works, want %d, or another state", what, done, at.done)
			}
			line, y := s.cutOff(t, at)
			if told(d.Image(), d.Durable(), d.Pending(), x.Frames()) != told(line.Image(), line.Durable(), line.Pending(), y.Frames()) {
				t.Fatalf("P18.7: %s: an Exec that goes on and one that is new come apart", what)
			}
			d.Crash(api.Choice{})
			holdWhole(t, what, d, states, done, done+1)
		}
	}
}

// P18.7: the power goes at each changing call of a story, and at each one of the Open that follows; crashes keep choices of what was pending; then the story goes on to its end.
func TestCrashes(t *testing.T) {
	t.Parallel()
	for i, s := range stories {
		t.Run(strconv.Itoa(i), func(t *testing.T) {
			t.Parallel()
			holdStory(t, s)
		})
	}
}

func holdStory(t *testing.T, s story) {
	states := s.plan()
	counts := map[string]int{}
	for _, at := range s.stops(t) {
		for i, choice := range choices() {
			for second := -1; second < 5; second++ {
				what := fmt.Sprintf("%q, power for %d calls, kept %v, then for %d calls", s[at.line], at.fuse, choice, second)
				d, _ := s.cutOff(t, at)
				d.Crash(api.Choice{Kept: choice})
				d.Fuse(second)
				if _, e := exec.Open(d); e == api.ErrStoDead {
					d.Crash(api.Choice{Kept: choice})
					counts["cut off again"]++
				}
				d.Fuse(-1)
				x, behind := holdWhole(t, what, d, states, at.done, at.done+1)
				counts[fmt.Sprint("behind ", behind-at.done)]++
				if second < 0 && i%10 == 0 {
					s.goOn(t, what, d, x, states, behind)
				}
			}
		}
	}
	if counts["cut off again"] < 1000 || counts["behind 0"] < 1000 || counts["behind 1"] < 1000 {
		t.Errorf("crashes are answered %v", counts)
	}
}

// goOn plays what is left of a story behind so many works, to its end.
func (s story) goOn(t *testing.T, what string, d *store.Store, x *exec.Exec, states []api.State, done int) {
	t.Helper()
	d.SetCapacity(room)
	if more, dead := s.from(done).play(t, what, d, x); dead || done+more != len(states)-1 {
		t.Fatalf("P18.7: %s: the story does not go on: %d and %d works", what, done, more)
	}
	holdWhole(t, what, d, states, len(states)-1, len(states)-1)
}

// P18.7: behind a commit's Sync the work is there, ahead of it the frame's whole Append may have been kept.
func TestCommitted(t *testing.T) {
	t.Parallel()
	ahead, states := play(base...)
	w := samples.Work("out dd; in ee 1 a:12 b:345; mend p:1")
	state := states[len(states)-1]
	both := []api.State{state, samples.Must(status.Apply(state, commitOf(state, w)))}
	_, frame := needs(state, w)
	for fuse := range 11 {
		for _, kept := range [][]int{nil, {1, 1, 1, 1}} {
			d := samples.Must(store.Load(ahead.Image(), room))
			x := samples.Must(exec.Open(d))
			d.Fuse(fuse)
			e := x.Run(w)
			frames := 4
			if fuse > 4 { // three files, a Sync, the Append
				frames = 5
			}
			if e != api.ErrStoDead || x.Frames() != frames || !status.Same(x.State(), state) || !x.Dead() {
				t.Errorf("P18.4: power for %d calls: Run = %d, %d frames", fuse, e, x.Frames())
			}
			d.Crash(api.Choice{Kept: kept})
			want := 0
			if fuse > 5 || fuse >= 4 && len(kept) > 0 {
				want = 1
			}
			holdWhole(t, fmt.Sprintf("power for %d calls, kept %v", fuse, kept), d, both, want, want)
		}
	}
	for n := range frame + 3 { // the frame is torn at each byte
		d := samples.Must(store.Load(ahead.Image(), room))
		x := samples.Must(exec.Open(d))
		d.Fuse(4)
		x.Run(w)
		d.Crash(api.Choice{Kept: []int{n + 2}})
		want := 0
		if n >= frame {
			want = 1
		}
		holdWhole(t, fmt.Sprintf("%d bytes of the frame are kept", n), d, both, want, want)
	}
}

// P18.7: files that a work which was cut off has staged are not taken for those of the next work with that number.
func TestStagedAndCutOff(t *testing.T) {
	t.Parallel()
	ahead, _ := play("in aa 1 x:1")
	for fuse := range 4 {
		for _, kept := range samples.Lists([]int{0, 1, 3}, 3) {
			d := samples.Must(store.Load(ahead.Image(), room))
			x := samples.Must(exec.Open(d))
			d.Fuse(fuse)
			x.Run(samples.Work("in bb 1 y:222 z:333"))
			d.Crash(api.Choice{Kept: kept})
			y, e := exec.Open(d)
			if e != api.OK || y.State().Seq > 2 {
				t.Fatalf("P18.7: Open = %d", e)
			}
			if y.State().Seq == 2 {
				continue
			}
			if e := y.Run(samples.Work("in cc 1 z:4")); e != api.OK {
				t.Fatalf("P18.7: Run = %d", e)
			}
			holdTree(t, fmt.Sprintf("power for %d calls, kept %v", fuse, kept), d, y.State())
		}
	}
}

// P18.4: the power goes where what was staged is taken away again.
func TestCutOffWhileFull(t *testing.T) {
	t.Parallel()
	ahead, states := play(base...)
	w := samples.Work("in ee 1 a:12 b:345; mend p:1")
	calls := 0
	for fuse := range 8 {
		for _, kept := range samples.Lists([]int{0, 1, 3}, 4) {
			d := samples.Must(store.Load(ahead.Image(), ahead.Used()+api.Reserve))
			x := samples.Must(exec.Open(d))
			d.Fuse(fuse)
			if e := x.Run(w); e != api.ErrStoDead || !x.Dead() || x.Frames() != 4 || !status.Same(x.State(), states[4]) {
				t.Fatalf("P18.4: power for %d calls: Run = %d", fuse, e)
			}
			d.Crash(api.Choice{Kept: kept})
			holdWhole(t, fmt.Sprintf("power for %d calls, kept %v", fuse, kept), d, states, 4, 4)
			calls++
		}
	}
	if calls < 500 {
		t.Errorf("only %d crashes", calls)
	}
}
