package status_test

import (
	"bytes"
	"reflect"
	"testing"

	"larder/api"
	"larder/samples"
	"larder/status"
)

// extent is the memory of a list, its room included.
type extent struct{ from, to uintptr }

// extents tells those of all lists in a thing.
func extents(v reflect.Value) []extent {
	var all []extent
	switch v.Kind() {
	case reflect.Slice:
		if size := uintptr(v.Cap()) * v.Type().Elem().Size(); size > 0 {
			all = append(all, extent{v.Pointer(), v.Pointer() + size})
		}
		for i := range v.Len() {
			all = append(all, extents(v.Index(i))...)
		}
	case reflect.Struct:
		for i := range v.NumField() {
			all = append(all, extents(v.Field(i))...)
		}
	}
	return all
}

// apart tells whether no two lists of all these things share memory.
func apart(things ...any) bool {
	var all []extent
	for _, x := range things {
		all = append(all, extents(reflect.ValueOf(x))...)
	}
	for i, a := range all {
		for _, b := range all[:i] {
			if a.from < b.to && b.from < a.to {
				return false
			}
		}
	}
	return true
}

func roomyCommit(c api.Commit) api.Commit {
	c.Out, c.Marks = samples.Roomy(c.Out, "beyond"), samples.Roomy(c.Marks, "beyond")
	c.In, c.Steps = samples.RoomyHeld(c.In), samples.Roomy(c.Steps, api.Step{Kind: 7})
	return c
}

func extentOfCommit(c api.Commit) api.Commit {
	c.Out, c.Marks = samples.Room(c.Out), samples.Room(c.Marks)
	c.In, c.Steps = samples.ExtentOfHeld(c.In), samples.Room(c.Steps)
	return c
}

func spoilCommit(c api.Commit) {
	samples.Fill(c.Out, "spoiled")
	samples.Fill(c.Marks, "spoiled")
	samples.SpoilHeld(c.In)
	samples.Fill(c.Steps, api.Step{Kind: 9})
}

// fullState is a state with packages that have all that one may have, the same before.
func fullState() api.State {
	full, other := samples.Full("aa", "1"), samples.Full("bb", "1")
	other.Files = []api.File{{Path: "b/d"}}
	held := []api.Held{{Package: full, Mark: api.MarkAuto}, {Package: other}}
	return api.State{Seq: 8, Group: 7, Held: held, Before: held[:1], Past: []api.Entry{{Seq: 7, Group: 7, Out: samples.Keys("cc=1"), In: samples.Keys("bb=1")}, {Seq: 8, Group: 7, Out: samples.Keys("dd=1"), In: samples.Keys("aa=1")}}}
}

// fullCommits fit it: in a change of their own, in the one that is going on.
func fullCommits() []api.Commit {
	full := samples.Full("ab", "1")
	full.Files = []api.File{{Path: "a"}, {Path: "e"}}
	c := api.Commit{Seq: 9, Group: 9, Out: []string{"aa"}, In: []api.Held{{Package: full}}, Marks: []string{"bb"}, Steps: []api.Step{{Kind: 1, From: "from", To: "to"}}}
	same := c
	same.Group = 7
	return []api.Commit{c, same, {Seq: 9, Group: 9, Marks: []string{"aa", "bb"}}, {Seq: 9, Group: 7}}
}

// Memory: states and commits that are handed in are not changed, and share nothing with what is answered.
func TestMemoryOfApply(t *testing.T) {
	t.Parallel()
	for _, commit := range fullCommits() {
		s, c := samples.RoomyState(fullState()), roomyCommit(commit)
		aheadState, aheadCommit := told(samples.ExtentOfState(s)), told(extentOfCommit(c))
		want := stateBehind(fullState(), commit)
		got, e := status.Apply(s, c)
		status.Fits(s, c)
		if e != api.OK || told(got) != told(want) {
			t.Fatalf("P16.2: Apply = %s, %d, want %s", told(got), e, told(want))
		}
		if told(samples.ExtentOfState(s)) != aheadState || told(extentOfCommit(c)) != aheadCommit {
			t.Error("P16.2: what was handed to Apply is changed")
		}
		if !apart(got, s, c) {
			t.Error("P16.2: what Apply answers shares memory")
		}
		samples.SpoilState(s)
		spoilCommit(c)
		if told(got) != told(want) {
			t.Errorf("P16.2: what Apply answered changes later: %s", told(got))
		}
	}
	empty := api.Commit{Seq: 9, Group: 9, Out: []string{}, In: []api.Held{}, Marks: []string{}, Steps: []api.Step{}}
	a, e := status.Apply(fullState(), empty)
	b, f := status.Apply(fullState(), api.Commit{Seq: 9, Group: 9})
	if e != api.OK || f != api.OK || !status.Same(a, b) {
		t.Errorf("P16.2: nil and empty are told apart: %d, %d", e, f)
	}
}

// Memory: bodies.
func TestMemoryOfBodies(t *testing.T) {
	t.Parallel()
	s, c := samples.RoomyState(fullState()), roomyCommit(fullCommits()[0])
	aheadState, aheadCommit := told(samples.ExtentOfState(s)), told(extentOfCommit(c))
	status.Check(s)
	status.CheckCommit(c)
	status.Same(s, s)
	stateBody, _ := status.Encode(s)
	commitBody, _ := status.EncodeCommit(c)
	if told(samples.ExtentOfState(s)) != aheadState || told(extentOfCommit(c)) != aheadCommit {
		t.Error("P16.1: what was handed in is changed")
	}
	samples.SpoilState(s)
	spoilCommit(c)
	if string(stateBody) != stateBytes(fullState()) || string(commitBody) != commitBytes(fullCommits()[0]) {
		t.Error("P16.1: bodies change later")
	}
	again, _ := status.Encode(fullState())
	if samples.Fill(stateBody, 'x'); string(again) != stateBytes(fullState()) {
		t.Error("P16.1: two bodies share memory")
	}
	stateBody, commitBody = samples.Roomy([]byte(stateBytes(fullState())), '!'), samples.Roomy([]byte(commitBytes(fullCommits()[0])), '!')
	stateRoom, commitRoom := samples.Room(stateBody), samples.Room(commitBody)
	gotState, e := status.Decode(stateBody)
	gotCommit, f := status.DecodeCommit(commitBody)
	if e != api.OK || f != api.OK || !bytes.Equal(samples.Room(stateBody), stateRoom) || !bytes.Equal(samples.Room(commitBody), commitRoom) {
		t.Errorf("P16.1: what is read is changed: %d, %d", e, f)
	}
	if !apart(gotState, gotCommit, stateBody, commitBody) {
		t.Error("P16.1: what is read shares memory")
	}
	samples.Fill(stateBody, 'x')
	samples.Fill(commitBody, 'x')
	if told(gotState) != told(fullState()) || told(gotCommit) != told(fullCommits()[0]) {
		t.Error("P16.1: what was read changes later")
	}
}

// P16.1: a body that lies within a longer list is read as far as the list goes.
func TestRoomIsNotRead(t *testing.T) {
	t.Parallel()
	for _, body := range bodies() {
		for n := range len(body) {
			if _, e := status.Decode([]byte(body)[:n]); e != api.ErrStaForm {
				t.Fatalf("P16.1: Decode of %d bytes = %d", n, e)
			}
			if _, e := status.DecodeCommit([]byte(body)[:n]); e != api.ErrStaForm {
				t.Fatalf("P16.1: DecodeCommit of %d bytes = %d", n, e)
			}
		}
	}
}

// P16.1: nil and empty are one.
func TestEmpty(t *testing.T) {
	t.Parallel()
	p := api.Package{Name: "aa", Version: "1"}
	e := api.Package{Name: "aa", Version: "1", Depends: []api.Clause{}, PreDepends: []api.Clause{}, Conflicts: []api.Atom{}, Provides: []string{}, Files: []api.File{}}
	a := api.State{Seq: 1, Group: 1, Held: []api.Held{{Package: p}}, Past: []api.Entry{{Seq: 1, Group: 1}}}
	b := api.State{Seq: 1, Group: 1, Held: []api.Held{{Package: e}}, Before: []api.Held{}, Past: []api.Entry{{Seq: 1, Group: 1, Out: []api.Key{}, In: []api.Key{}}}}
	holdState(t, "empty lists", b, api.OK)
	if !status.Same(a, b) || stateBytes(a) != stateBytes(b) {
		t.Error("P16.5: nil and empty are not the Same")
	}
	if body, _ := status.Encode(b); string(body) != stateBytes(a) {
		t.Errorf("P16.1: Encode = %q", body)
	}
	holdCommit(t, "empty lists", api.Commit{Seq: 1, Group: 1, Out: []string{}, In: []api.Held{{Package: e}}, Marks: []string{}, Steps: []api.Step{}}, api.OK)
	if _, f := status.Decode(nil); f != api.ErrStaForm {
		t.Errorf("P16.1: Decode(nil) = %d", f)
	}
	if _, f := status.DecodeCommit([]byte{}); f != api.ErrStaForm {
		t.Errorf("P16.1: DecodeCommit of nothing = %d", f)
	}
}

// Memory: what Load answers shares nothing, and is new each time; what Save was handed is not kept.
func TestMemoryOfDisk(t *testing.T) {
	t.Parallel()
	for _, commit := range fullCommits() {
		s := samples.RoomyState(fullState())
		ahead := told(samples.ExtentOfState(s))
		d := samples.Disk(nil, room)
		if e := status.Save(d, s); e != api.OK || told(samples.ExtentOfState(s)) != ahead {
			t.Fatalf("P16.4: Save = %d, or changes the state", e)
		}
		samples.SpoilState(s)
		d.Write("d/journal", []byte(commitFrames(commit)))
		want := stateBehind(fullState(), commit)
		got, last, _, e := status.Load(d)
		again, lastAgain, _, _ := status.Load(d)
		if e != api.OK || told(got) != told(want) || told(last) != told(commit) {
			t.Fatalf("P16.3: Load = %s, %s, %d", told(got), told(last), e)
		}
		if !apart(got, last, again, lastAgain) {
			t.Error("P16.3: what Load answers shares memory")
		}
		samples.SpoilState(got)
		if told(last) != told(commit) || told(again) != told(want) {
			t.Error("P16.3: what Load answered changes with the state")
		}
		spoilCommit(last)
		if third, lastOfThird, _, _ := status.Load(d); told(third) != told(want) || told(lastOfThird) != told(commit) || told(again) != told(want) || told(lastAgain) != told(commit) {
			t.Error("P16.3: what Load answers changes with what it answered")
		}
	}
}
