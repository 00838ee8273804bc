package exec_test

import (
	"fmt"
	"slices"
	"strings"
	"testing"

	"larder/api"
	"larder/control"
	"larder/exec"
	"larder/samples"
	"larder/status"
	"larder/store"
)

// longPackage tells a package whose Depends prints to so many bytes; it meets that itself.
func longPackage(name string, size int) api.Held {
	p := api.Package{Name: name, Version: "1", Depends: samples.LongDepends(size)}
	for _, c := range p.Depends {
		for _, a := range c {
			if !slices.Contains(p.Provides, a.Name) {
				p.Provides = append(p.Provides, a.Name)
			}
		}
	}
	return api.Held{Package: p}
}

// bodySize tells how many bytes the body of a work's commit over nothing has, as chapter 16 writes it.
func bodySize(w api.Work) int {
	n := 1 + 8 + 8 + 4 + 4 + 4 + 4
	for _, h := range w.In {
		n += 1 + 4 + len(samples.Must(control.Print(h.Package)))
	}
	for _, s := range stepsOf(api.State{}, w) {
		n += 1 + 4 + len(s.From) + 4 + len(s.To)
	}
	return n
}

// longWork tells a work whose commit over nothing has a body of so many bytes, a few of them in its one step.
func longWork(size int) api.Work {
	const many = 17
	each := size/many - 1000
	w := api.Work{Files: samples.Blobs("x:hi")}
	for i := range many - 1 {
		w.In = append(w.In, longPackage(fmt.Sprintf("p%02d", i), each))
	}
	w.In = append(w.In, longPackage("zz", each))
	w.In[many-1].Files = []api.File{samples.File("x", "hi")}
	longer := longPackage("zz", each+size-bodySize(w)-100)
	w.In[many-1].Depends, w.In[many-1].Provides = longer.Depends, longer.Provides
	w.In[0].Summary = strings.Repeat("s", size-bodySize(w)-len("Description: \n"))
	return w
}

// P18.3 to P18.6: a body of MaxFrame bytes, and one byte more.
func TestLongFrame(t *testing.T) {
	t.Parallel()
	w := longWork(api.MaxFrame)
	above := w
	above.In = slices.Clone(w.In)
	above.In[0].Summary += "s"
	if steps, e := exec.Steps(api.State{}, above); e != api.ErrExeLong || len(steps) > 0 {
		t.Errorf("P18.6: Steps of one byte more = %v, %d", steps, e)
	}
	d := samples.Must(store.New(api.MaxCapacity))
	x := samples.Must(exec.Open(d))
	wrong := above
	wrong.Files = nil
	if e := x.Run(wrong); e != api.ErrExeWork {
		t.Errorf("P18.4: Run of one byte more, without its files = %d", e)
	}
	if e := x.Run(above); e != api.ErrExeLong || d.Calls() > 0 {
		t.Errorf("P18.4: Run of one byte more = %d, with %d calls", e, d.Calls())
	}
	if e := x.Run(w); e != api.OK || d.Calls() != 6 || x.Frames() != 1 || d.Used() != api.MaxFrame+16+2 {
		t.Fatalf("P18.4: Run = %d, with %d calls, %d bytes", e, d.Calls(), d.Used())
	}
	// The checkpoint's body is longer than MaxFrame: it is not made, and nobody is told.
	if e := x.Checkpoint(); e != api.OK || d.Calls() != 6 || x.Frames() != 1 || x.Dead() {
		t.Errorf("P18.5: Checkpoint = %d, with %d calls", e, d.Calls())
	}
	y, e := exec.Open(d)
	if e != api.OK || d.Calls() != 6 || !status.Same(y.State(), x.State()) || len(y.State().Held) != len(w.In) {
		t.Errorf("P18.1: Open = %d", e)
	}
}

// P18.4, P18.8: a store with as many files as it may have.
func TestManyNames(t *testing.T) {
	t.Parallel()
	state := api.State{Seq: 1, Group: 1, Held: []api.Held{samples.Held("aa 1")}}
	blobs := []api.Blob{{Name: "d/status", Data: pointOf(state)}}
	for i := range api.MaxNames - 1 {
		blobs = append(blobs, api.Blob{Name: fmt.Sprintf("t/%07d", i)})
	}
	d := samples.Must(store.Load(blobs, room))
	free := func(n int) { // leaves room for so many names more
		for i := range n {
			d.Remove(fmt.Sprintf("t/%07d", i))
		}
		d.Sync()
	}
	x := samples.Must(exec.Open(d))
	run := func(what, text string, want api.Errno, calls int) {
		t.Helper()
		was := d.Calls()
		if e := x.Run(samples.Work(text)); e != want || d.Calls()-was != calls || d.Pending() > 0 || len(slices.Collect(d.Names("n/"))) > 0 {
			t.Errorf("P18.4: %s: Run of %q = %d, want %d, with %d calls", what, text, e, want, d.Calls()-was)
		}
	}
	run("no name is left, no journal", "mark aa", api.ErrExeFull, 2)
	run("no name is left, no journal", "out aa", api.ErrExeFull, 2)
	run("no name is left, no journal", "in bb 1", api.ErrExeFull, 2)
	run("no name is left, no journal", "in bb 1 x:1", api.ErrExeFull, 1)
	if e := x.Checkpoint(); e != api.OK || x.State().Seq != 1 {
		t.Errorf("P18.5: Checkpoint = %d", e)
	}
	free(1)
	run("one name is left, no journal", "in bb 1 x:1", api.ErrExeFull, 1+1+2)
	run("one name is left, no journal", "mark aa", api.OK, 4)
	run("no name is left, a journal", "mark aa", api.OK, 4)
	run("no name is left, a journal", "in bb 1", api.OK, 4)
	run("no name is left, a journal", "in cc 1 x:1", api.ErrExeFull, 1)
	free(2)
	run("one name is left, a journal", "in cc 1 x:1 y:2", api.ErrExeFull, 1+2)
	run("one name is left, a journal", "in cc 1 x:1", api.OK, 6)
	if y, e := exec.Open(d); e != api.OK || !status.Same(y.State(), x.State()) || y.State().Seq != 5 {
		t.Errorf("P18.1: Open = %d", e)
	}
}

// P18.4: as many files as a package may have, one of them as long as one may be.
func TestManyFiles(t *testing.T) {
	t.Parallel()
	h := samples.Held("aa 1")
	var w api.Work
	for i := range api.MaxFiles {
		data := strings.Repeat("x", i%7)
		if i == 99 {
			data = strings.Repeat("y", api.MaxFile)
		}
		f := samples.File(fmt.Sprintf("d/%04d", i), data)
		h.Files = append(h.Files, f)
		w.Files = append(w.Files, api.Blob{Name: f.Path, Data: []byte(data)})
	}
	w.In = []api.Held{h}
	d := samples.Must(store.New(api.MaxCapacity))
	x := samples.Must(exec.Open(d))
	if e := x.Run(w); e != api.OK || d.Calls() != 2*api.MaxFiles+4 {
		t.Fatalf("P18.4: Run = %d, with %d calls", e, d.Calls())
	}
	holdTree(t, "many files", d, x.State())
	d.Fuse(api.MaxFiles / 2)
	if e := x.Run(api.Work{Out: []string{"aa"}}); e != api.ErrStoDead {
		t.Errorf("P18.4: Run = %d", e)
	}
	d.Crash(api.Choice{Kept: slices.Repeat([]int{0, 1}, api.MaxFiles)})
	y := samples.Must(exec.Open(d))
	holdTree(t, "many files that were cut off", d, y.State())
	if y.State().Seq != 2 || y.Frames() != 2 {
		t.Errorf("P18.7: Seq %d, %d frames", y.State().Seq, y.Frames())
	}
}

// P18.2, P18.4: more works than a state tells of.
func TestManyWorks(t *testing.T) {
	t.Parallel()
	d := samples.Must(store.New(room))
	x := samples.Must(exec.Open(d))
	if e := x.Run(samples.Work("in aa 1")); e != api.OK {
		t.Fatalf("P18.4: Run = %d", e)
	}
	for range api.MaxPast + 3 {
		if e := x.Run(samples.Work("mark aa")); e != api.OK {
			t.Fatalf("P18.4: Run = %d", e)
		}
	}
	s := x.State()
	if s.Seq != api.MaxPast+4 || len(s.Past) != api.MaxPast || s.Past[0].Seq != 5 || x.Frames() != api.MaxPast+4 {
		t.Errorf("P18.2: Seq %d, %d entries, %d frames", s.Seq, len(s.Past), x.Frames())
	}
	if y := samples.Must(exec.Open(d)); told(y.State()) != told(s) || y.Frames() != x.Frames() {
		t.Error("P18.1: Open tells another state")
	}
}
