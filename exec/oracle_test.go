package exec_test

import (
	"crypto/sha256"
	"fmt"
	"slices"
	"testing"

	"larder/api"
	"larder/exec"
	"larder/installed"
	"larder/journal"
	"larder/samples"
	"larder/status"
	"larder/store"
	"larder/tree"
	"larder/valid"
)

// room is enough for all that tests without care of it do.
const room = 1 << 20

// told tells things as text; nil and empty are one.
func told(things ...any) string { return fmt.Sprintf("%+v", things) }

// commitOf is 'a work's commit', without its steps.
func commitOf(s api.State, w api.Work) api.Commit {
	c := api.Commit{Seq: s.Seq + 1, Group: s.Seq + 1, Out: w.Out, In: w.In, Marks: w.Marks}
	if w.Group != 0 {
		c.Group = w.Group
	}
	return c
}

// isContents tells whether bytes have the size and sum that a file says.
func isContents(data []byte, f api.File) bool {
	return len(data) == f.Size && sha256.Sum256(data) == f.Sum
}

// filesAreRight is the first half of the third of what a work must be.
func filesAreRight(w api.Work) bool {
	left := w.Files
	for _, h := range w.In {
		for _, f := range h.Files {
			if len(left) == 0 || left[0].Name != f.Path || !isContents(left[0].Data, f) {
				return false
			}
			left = left[1:]
		}
	}
	return len(left) == 0
}

// mendIsRight is its other half.
func mendIsRight(s api.State, w api.Work) bool {
	for i, b := range w.Mend {
		found := false
		for _, h := range s.Held {
			for _, f := range h.Files {
				found = found || !slices.Contains(w.Out, h.Name) && f.Path == b.Name && isContents(b.Data, f)
			}
		}
		if !found || i > 0 && w.Mend[i-1].Name >= b.Name {
			return false
		}
	}
	return true
}

// fault is a work's fault over a state: the first of the five that holds.
func fault(s api.State, w api.Work) api.Errno {
	if s.Seq >= 1<<48-1 {
		return api.ErrExeLong
	}
	c := commitOf(s, w)
	if status.Fits(s, c) != api.OK {
		return api.ErrExeWork
	}
	behind := samples.Must(status.Apply(s, c))
	if len(valid.Faults(installed.Packages(behind.Held))) > 0 {
		return api.ErrExeWork
	}
	if !filesAreRight(w) || !mendIsRight(s, w) {
		return api.ErrExeWork
	}
	if len(w.Out) == 0 && len(w.In) == 0 && len(w.Marks) == 0 && len(w.Mend) == 0 {
		return api.ErrExeWork
	}
	c.Steps = stepsOf(s, w)
	if _, e := status.EncodeCommit(c); e != api.OK {
		return api.ErrExeLong
	}
	return api.OK
}

// stepsOf is 'its steps', of a work that may be.
func stepsOf(s api.State, w api.Work) []api.Step {
	var steps []api.Step
	k := 0
	rename := func(path string) {
		steps = append(steps, api.Step{Kind: 1, From: fmt.Sprintf("n/%d.%d", s.Seq+1, k), To: "t/" + path})
		k++
	}
	var comes, goes []string
	for _, h := range w.In {
		for _, f := range h.Files {
			rename(f.Path)
			comes = append(comes, f.Path)
		}
	}
	for _, h := range s.Held {
		for _, f := range h.Files {
			if slices.Contains(w.Out, h.Name) && !slices.Contains(comes, f.Path) {
				goes = append(goes, f.Path)
			}
		}
	}
	slices.Sort(goes)
	for _, path := range goes {
		steps = append(steps, api.Step{Kind: 2, To: "t/" + path})
	}
	for _, b := range w.Mend {
		rename(b.Name)
	}
	return steps
}

// model is an Exec as the document's words have it.
type model struct {
	d      *store.Store
	state  api.State
	frames int
	over   bool
}

func there(d *store.Store, name string) bool {
	_, e := d.Size(name)
	return e == api.OK
}

// doSteps is the third part of a batch, and of RECOVER, on a store: how many did something.
func doSteps(d *store.Store, steps []api.Step) (int, api.Errno) {
	done := 0
	for _, s := range steps {
		e := api.OK
		switch {
		case s.Kind == 1 && there(d, s.From):
			e = d.Rename(s.From, s.To)
		case s.Kind == 2 && there(d, s.To):
			e = d.Remove(s.To)
		default:
			continue
		}
		if e != api.OK {
			return done, e
		}
		done++
	}
	return done, api.OK
}

// removeAll removes files; how many there were.
func removeAll(d *store.Store, names []string) (int, api.Errno) {
	for _, name := range names {
		if e := d.Remove(name); e != api.OK {
			return 0, e
		}
	}
	return len(names), api.OK
}

// modelOpen is P18.1.
func modelOpen(d *store.Store) (*model, api.Errno) {
	if d == nil {
		return nil, api.ErrArg
	}
	if d.Dead() {
		return nil, api.ErrStoDead
	}
	state, last, is, e := status.Load(d)
	if e != api.OK {
		return nil, e
	}
	if len(valid.Faults(installed.Packages(state.Held))) > 0 {
		return nil, api.ErrExeWork
	}
	if is && tree.Check(last.Steps) != api.OK {
		return nil, tree.Check(last.Steps)
	}
	data, _ := d.Read("d/journal")
	bodies, whole := journal.Decode(data)
	if whole < len(data) {
		if e := d.Truncate("d/journal", whole); e != api.OK {
			return nil, e
		}
		if e := d.Sync(); e != api.OK {
			return nil, e
		}
	}
	did, e := doSteps(d, last.Steps)
	if e != api.OK {
		return nil, e
	}
	left := slices.Collect(d.Names("n/"))
	if there(d, "d/status.new") {
		left = append(left, "d/status.new")
	}
	removed, e := removeAll(d, left)
	if e != api.OK {
		return nil, e
	}
	if did+removed > 0 {
		if e := d.Sync(); e != api.OK {
			return nil, e
		}
	}
	return &model{d: d, state: state, frames: len(bodies)}, api.OK
}

func (m *model) dead() bool { return m.over || m.d.Dead() }

// check is P18.3.
func (m *model) check(works []api.Work) api.Errno {
	if m.dead() {
		return api.ErrStoDead
	}
	s := m.state
	for _, w := range works {
		if e := fault(s, w); e != api.OK {
			return e
		}
		s = samples.Must(status.Apply(s, commitOf(s, w)))
	}
	return api.OK
}

// run is P18.4.
func (m *model) run(w api.Work) api.Errno {
	if e := m.check([]api.Work{w}); e != api.OK {
		return e
	}
	e := m.carryOut(w)
	if e == api.ErrStoFull {
		if _, e = removeAll(m.d, slices.Collect(m.d.Names("n/"))); e == api.OK {
			e = m.d.Sync()
		}
		if e == api.OK {
			return api.ErrExeFull
		}
	}
	m.over = e == api.ErrStoDead
	return e
}

// carryOut is the three steps of a batch; ErrStoFull of one that has no room.
func (m *model) carryOut(w api.Work) api.Errno {
	c := commitOf(m.state, w)
	c.Steps = stepsOf(m.state, w)
	for k, b := range slices.Concat(w.Files, w.Mend) {
		if e := m.d.Write(fmt.Sprintf("n/%d.%d", c.Seq, k), b.Data); e != api.OK {
			return e
		}
	}
	if e := m.d.Sync(); e != api.OK {
		return e
	}
	frame := frameOf(c)
	if (len(w.In) > 0 || len(w.Mend) > 0) && m.d.Capacity()-m.d.Used()-len(frame) < 65536 {
		return api.ErrStoFull
	}
	put := m.d.Append
	if !there(m.d, "d/journal") {
		put = m.d.Write
	}
	if e := put("d/journal", frame); e != api.OK {
		return e
	}
	m.frames++
	if e := m.d.Sync(); e != api.OK {
		return e
	}
	if _, e := doSteps(m.d, c.Steps); e != api.OK {
		return e
	}
	if e := m.d.Sync(); e != api.OK {
		return e
	}
	m.state = samples.Must(status.Apply(m.state, commitOf(m.state, w)))
	return api.OK
}

// checkpoint is P18.5.
func (m *model) checkpoint() api.Errno {
	if m.dead() {
		return api.ErrStoDead
	}
	switch status.Save(m.d, m.state) {
	case api.ErrStoDead:
		m.over = true
		return api.ErrStoDead
	case api.OK:
		m.frames = 0
	}
	return api.OK
}

// frameOf tells a commit's frame.
func frameOf(c api.Commit) []byte {
	return samples.Must(journal.Encode(samples.Must(status.EncodeCommit(c))))
}

// pointOf tells a state's checkpoint.
func pointOf(s api.State) []byte {
	return samples.Must(journal.Encode(samples.Must(status.Encode(s))))
}

// play plays lines on a new store as the document's words have them: works, and `checkpoint`; it tells the store and the states, the one ahead of all first.
func play(lines ...string) (*store.Store, []api.State) {
	d := samples.Must(store.New(api.MaxCapacity))
	m := samples.Must(modelOpen(d))
	states := []api.State{m.state}
	for _, line := range lines {
		if line == "checkpoint" {
			samples.Must(0, m.checkpoint())
		} else {
			samples.Must(0, m.run(samples.Work(line)))
			states = append(states, m.state)
		}
	}
	return d, states
}

// pair is an Exec and its model, over stores that are the same.
type pair struct {
	x *exec.Exec
	d *store.Store
	m *model
}

// opened tells the pair over two stores that are the same, or the error.
func opened(t *testing.T, what string, d, twin *store.Store) (pair, api.Errno) {
	t.Helper()
	x, e := exec.Open(d)
	m, f := modelOpen(twin)
	if e != f || (x == nil) != (m == nil) {
		t.Fatalf("P18.1: %s: Open = %v, %d, want %d", what, x != nil, e, f)
	}
	if samples.Told(d) != samples.Told(twin) {
		t.Fatalf("P18.1: %s: Open leaves %q, want %q", what, samples.Told(d), samples.Told(twin))
	}
	p := pair{x, d, m}
	if e == api.OK {
		p.hold(t, what)
	}
	return p, e
}

// pairOf opens a pair over an image.
func pairOf(t *testing.T, image []api.Blob, capacity int) pair {
	t.Helper()
	p, e := opened(t, "an image", samples.Must(store.Load(image, capacity)), samples.Must(store.Load(image, capacity)))
	if e != api.OK {
		t.Fatalf("P18.1: Open = %d", e)
	}
	return p
}

// hold holds what an Exec tells, and its store, against the model.
func (p pair) hold(t *testing.T, what string) {
	t.Helper()
	if got, want := samples.Told(p.d), samples.Told(p.m.d); got != want {
		t.Fatalf("%s: the store is %q, want %q", what, got, want)
	}
	if got := p.x.State(); told(got) != told(p.m.state) {
		t.Fatalf("P18.2: %s: State = %s, want %s", what, told(got), told(p.m.state))
	}
	if got := p.x.Frames(); got != p.m.frames {
		t.Fatalf("P18.2: %s: Frames = %d, want %d", what, got, p.m.frames)
	}
	if got := p.x.Dead(); got != p.m.dead() {
		t.Fatalf("P18.2: %s: Dead = %v", what, got)
	}
}

// run runs a work on both.
func (p pair) run(t *testing.T, what string, w api.Work) api.Errno {
	t.Helper()
	got, want := p.x.Run(w), p.m.run(w)
	if got != want {
		t.Fatalf("P18.4: %s: Run = %d, want %d", what, got, want)
	}
	p.hold(t, what)
	return got
}

// checkpoint makes a checkpoint on both.
func (p pair) checkpoint(t *testing.T, what string) api.Errno {
	t.Helper()
	got, want := p.x.Checkpoint(), p.m.checkpoint()
	if got != want {
		t.Fatalf("P18.5: %s: Checkpoint = %d, want %d", what, got, want)
	}
	p.hold(t, what)
	return got
}

// fuse lays a fuse on both.
func (p pair) fuse(n int) {
	p.d.Fuse(n)
	p.m.d.Fuse(n)
}

// capacity sets both stores' capacity.
func (p pair) capacity(n int) {
	p.d.SetCapacity(n)
	p.m.d.SetCapacity(n)
}
