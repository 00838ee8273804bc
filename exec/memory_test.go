package exec_test

import (
	"testing"

	"larder/api"
	"larder/exec"
	"larder/samples"
	"larder/store"
)

// roomyWork tells a copy of a work whose lists have room beyond their ends.
func roomyWork(w api.Work) api.Work {
	w.Out, w.Marks = samples.Roomy(w.Out, "beyond"), samples.Roomy(w.Marks, "beyond")
	w.In = samples.RoomyHeld(w.In)
	w.Files, w.Mend = samples.RoomyBlobs(w.Files), samples.RoomyBlobs(w.Mend)
	return w
}

// extentOfWork tells a copy of all that a work has room for.
func extentOfWork(w api.Work) api.Work {
	w.Out, w.Marks = samples.Room(w.Out), samples.Room(w.Marks)
	w.In = samples.ExtentOfHeld(w.In)
	w.Files, w.Mend = samples.ExtentOfBlobs(w.Files), samples.ExtentOfBlobs(w.Mend)
	return w
}

// spoilWork writes over all that a work has room for.
func spoilWork(w api.Work) {
	samples.Fill(w.Out, "spoiled")
	samples.Fill(w.Marks, "spoiled")
	samples.SpoilHeld(w.In)
	samples.SpoilBlobs(w.Files)
	samples.SpoilBlobs(w.Mend)
}

// full is a work over base that has all that a work may have, with packages that have all that one may have.
func full() api.Work {
	w := samples.Work("out cc dd; in dd 2 a:1 b:2; in ee 1 c:3 u:4 auto; mark aa bb; mend p:1 q:3; group 3")
	p := samples.Full("dd", "2")
	w.In[0].Essential, w.In[0].Archive, w.In[0].Size, w.In[0].Sum, w.In[0].Summary = p.Essential, p.Archive, p.Size, p.Sum, p.Summary
	w.In[0].Depends = []api.Clause{{{Name: "aa"}, {Name: "zz"}}, {{Name: "bb", Op: api.OpAtLeast, Version: "1"}}}
	w.In[0].PreDepends = []api.Clause{{{Name: "aa", Op: api.OpEqual, Version: "1"}}}
	w.In[0].Conflicts = p.Conflicts
	w.In[0].Provides = p.Provides
	return w
}

// Memory: a work that is handed in is not changed, and not kept.
func TestMemoryOfWorks(t *testing.T) {
	t.Parallel()
	d, states := play(base...)
	p := pairOf(t, d.Image(), room)
	w := roomyWork(full())
	works := samples.Roomy([]api.Work{w, roomyWork(samples.Work("mark aa"))}, api.Work{Group: 7})
	was := told(extentOfWork(w))
	state := samples.RoomyState(states[4])
	stateWas := told(samples.ExtentOfState(state))
	if e := p.x.Check(works); e != api.OK || told(works[:cap(works)][2:]) != told([]api.Work{{Group: 7}, {Group: 7}}) {
		t.Fatalf("P18.3: Check = %d, or changes the list beyond its end", e)
	}
	steps, e := exec.Steps(state, w)
	if e != api.OK || told(extentOfWork(w)) != was || told(samples.ExtentOfState(state)) != stateWas {
		t.Fatalf("P18.6: Steps = %d, or what was handed in is changed", e)
	}
	again, _ := exec.Steps(state, w)
	samples.Fill(steps, api.Step{Kind: 9})
	if want := told(stepsOf(states[4], full())); told(again) != want || told(extentOfWork(w)) != was {
		t.Errorf("P18.6: Steps changes with what it answered")
	}
	if e := p.x.Run(w); e != api.OK || p.m.run(full()) != api.OK || told(extentOfWork(w)) != was {
		t.Fatalf("P18.4: Run = %d, or the work is changed", e)
	}
	spoilWork(w)
	samples.SpoilState(state)
	p.hold(t, "the work is written over")
	if e := p.run(t, "the next work", samples.Work("out ee; in ee 2 c:5; mark dd")); e != api.OK {
		t.Errorf("P18.4: Run = %d", e)
	}
	p.checkpoint(t, "the state is written")
	if want := told(stepsOf(states[4], full())); told(again) != want {
		t.Errorf("P18.6: what Steps answered changes later")
	}
}

// Memory: works that are refused, for each reason.
func TestMemoryOfRefused(t *testing.T) {
	t.Parallel()
	d, _ := play(base...)
	x := samples.Must(exec.Open(d))
	d.SetCapacity(d.Used() + 2)
	for _, c := range append(faultCases(), faultCase{what: "no room", w: full(), want: api.OK}) {
		w := roomyWork(c.w)
		was := told(extentOfWork(w))
		if e := x.Run(w); e == api.OK || told(extentOfWork(w)) != was {
			t.Errorf("P18.4: %s: Run = %d, or the work is changed", c.what, e)
		}
	}
}

// Memory: what State tells is new each time, and changes nothing.
func TestMemoryOfState(t *testing.T) {
	t.Parallel()
	d, _ := play(base...)
	x := samples.Must(exec.Open(d))
	for _, w := range []api.Work{full(), samples.Work("mark aa; group 3"), samples.Work("mark aa")} {
		first, second := x.State(), x.State()
		want := told(second)
		if len(first.Held) == 0 || len(first.Past) == 0 || told(first) != want {
			t.Fatalf("P18.2: State = %s", told(first))
		}
		samples.SpoilState(first)
		if told(second) != want || told(x.State()) != want {
			t.Error("P18.2: what State tells is shared")
		}
		if e := x.Run(w); e != api.OK || told(second) != want {
			t.Errorf("P18.2: what State told changes with a Run: %d", e)
		}
	}
	s := x.State()
	samples.SpoilHeld(s.Held)
	if told(s.Before, s.Past) != told(x.State().Before, x.State().Past) {
		t.Error("P18.2: lists of one State share memory")
	}
	if y := samples.Must(exec.Open(d)); told(y.State()) != told(x.State()) {
		t.Error("P18.7: the store has another state")
	}
}

// Memory: nil and empty are one.
func TestEmpty(t *testing.T) {
	t.Parallel()
	d, _ := play(base...)
	for _, text := range []string{"mark aa", "out bb", "in ee 1", "mend p:1"} {
		p := pairOf(t, d.Image(), room)
		w := samples.Work(text)
		if w.Out == nil {
			w.Out = []string{}
		}
		if w.In == nil {
			w.In = []api.Held{}
		}
		if w.Marks == nil {
			w.Marks = []string{}
		}
		if w.Files == nil {
			w.Files = []api.Blob{}
		}
		if w.Mend == nil {
			w.Mend = []api.Blob{}
		}
		if e, f := p.x.Run(w), p.m.run(samples.Work(text)); e != api.OK || f != api.OK {
			t.Errorf("P18.4: %s: Run = %d, %d", text, e, f)
		}
		p.hold(t, text)
	}
	p := pairOf(t, nil, room)
	if e := p.x.Check([]api.Work{}); e != api.OK {
		t.Errorf("P18.3: Check of no works = %d", e)
	}
	w := samples.Work("in aa 1 x: y:")
	w.Files[0].Data = nil
	if e := p.run(t, "no bytes", w); e != api.OK {
		t.Errorf("P18.4: Run = %d", e)
	}
}

// Answers hang on what was handed in alone: two stores that are the same stay so, whatever room the lists have.
func TestSameAgain(t *testing.T) {
	t.Parallel()
	a, b := samples.Must(store.New(room)), samples.Must(store.New(room))
	x, y := samples.Must(exec.Open(a)), samples.Must(exec.Open(b))
	for _, text := range base {
		if e, f := x.Run(samples.Work(text)), y.Run(roomyWork(samples.Work(text))); e != api.OK || f != api.OK {
			t.Fatalf("P18.4: Run = %d, %d", e, f)
		}
	}
	if e, f := x.Run(full()), y.Run(roomyWork(full())); e != api.OK || f != api.OK {
		t.Fatalf("P18.4: Run = %d, %d", e, f)
	}
	if samples.Told(a) != samples.Told(b) || told(x.State()) != told(y.State()) {
		t.Error("P18.4: two stores come apart")
	}
}
