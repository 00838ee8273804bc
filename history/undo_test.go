package history_test

import (
	"slices"
	"testing"

	"larder/api"
	"larder/history"
	"larder/samples"
	"larder/status"
)

// P22.4: what the document names.
func TestUndo(t *testing.T) {
	t.Parallel()
	for _, c := range []struct {
		what      string
		s         api.State
		u, target string
		e         api.Errno
	}{
		{"nothing", api.State{}, "", "", api.ErrHisNone},
		{"Group 0", api.State{Seq: 3, Held: samples.AllHeld("aa 1"), Before: samples.AllHeld("bb 1")}, "", "", api.ErrHisNone},
		{"Group 0, and nothing ahead", api.State{Held: samples.AllHeld("aa 1")}, "", "", api.ErrHisNone},
		{"Group 0, and nothing now", api.State{Before: samples.AllHeld("aa 1")}, "", "", api.ErrHisNone},
		{"nothing ahead and now", api.State{Seq: 2, Group: 1}, "", "", api.ErrHisNone},
		{"the same keys with the same marks", api.State{Seq: 2, Group: 1, Held: samples.AllHeld("aa 1; bb 2 auto"), Before: samples.AllHeld("aa 1; bb 2 auto")}, "", "", api.ErrHisNone},
		{"the same, with other stanzas", api.State{Seq: 2, Group: 1, Held: samples.AllHeld("aa 1; bb 2 auto x:hi"), Before: samples.AllHeld("aa 1 depends=cc; bb 2 auto")}, "", "", api.ErrHisNone},
		{"marks twice turned", played(api.State{}, "in aa 1", "mark aa", "mark aa; group 2"), "", "", api.ErrHisNone},
		{"it went and came", played(api.State{}, "in aa 1 auto", "out aa", "in aa 1 auto; group 2"), "", "", api.ErrHisNone},

		{"the first change", played(api.State{}, "in aa 1"), "aa 1", "", api.OK},
		{"all went", played(api.State{}, "in aa 1 auto; in bb 1", "out aa bb"), "aa 1; bb 1", "aa 1 auto; bb 1", api.OK},
		{"several commits of one change", played(api.State{}, "in aa 1", "in bb 1", "out aa; group 2", "in aa 2; group 2", "mark bb; group 2"), "aa 1; aa 2; bb 1", "aa 1", api.OK},
		{"the last change alone", played(api.State{}, "in aa 1", "in bb 1", "in cc 1"), "aa 1; bb 1; cc 1", "aa 1; bb 1", api.OK},
		{"marks alone", played(api.State{}, "in aa 1; in bb 1 auto", "mark aa bb"), "aa 1; bb 1", "aa 1; bb 1 auto", api.OK},
		{"one mark of many", played(api.State{}, "in aa 1; in bb 1; in cc 1", "mark cc"), "aa 1; bb 1; cc 1", "aa 1; bb 1; cc 1", api.OK},
		{"it came again with another mark", played(api.State{}, "in aa 1 auto", "out aa", "in aa 1; group 2"), "aa 1", "aa 1 auto", api.OK},
		{"another stanza and another mark", played(api.State{}, "in aa 1 auto x:hi", "out aa; in aa 1 depends=aa x:ho"), "aa 1 depends=aa x:ho", "aa 1 auto depends=aa x:ho", api.OK},
		{"another stanza of one, another one", played(api.State{}, "in aa 1 x:hi; in bb 1 y:hi", "out aa bb; in aa 1 x:ho; in cc 1 y:hi"), "aa 1 x:ho; bb 1 y:hi; cc 1 y:hi", "aa 1 x:ho; bb 1 y:hi", api.OK},
		{"versions in order as texts", played(api.State{}, "in aa 9", "out aa; in aa 10"), "aa 10; aa 9", "aa 9", api.OK},
		{"versions whose order is the same", played(api.State{}, "in aa 1.0 x:hi", "out aa; in aa 1.00 x:ho"), "aa 1.0 x:hi; aa 1.00 x:ho", "aa 1.0 x:hi", api.OK},
		{"a path that wandered", played(api.State{}, "in aa 1 x:hi; in bb 1", "out aa bb; in aa 2; in bb 2 x:hi"), "aa 1 x:hi; aa 2; bb 1; bb 2 x:hi", "aa 1 x:hi; bb 1", api.OK},
		{"no history any more", api.State{Seq: 9, Group: 2, Held: samples.AllHeld("bb 1"), Before: samples.AllHeld("aa 1")}, "aa 1; bb 1", "aa 1", api.OK},
		{"a last entry of another Group", api.State{Seq: 2, Group: 1, Held: samples.AllHeld("aa 1"), Past: entriesOf("2 2 +aa=1")}, "aa 1", "", api.OK},
		{"the last number", api.State{Seq: api.MaxSeq, Group: api.MaxSeq, Held: samples.AllHeld("aa 1")}, "aa 1", "", api.OK},
	} {
		u, target, e := history.Undo(c.s)
		if e != c.e || told(u) != told(stanzas(c.u)) || told(target) != told(samples.AllHeld(c.target)) {
			t.Errorf("P22.4: %s: Undo = %v, %v, %d", c.what, u, target, e)
		}
		hold(t, c.what, c.s)
		holdUndone(t, c.what, c.s)
	}
}

// stanzas reads packages as samples.AllHeld does.
func stanzas(text string) []api.Package {
	var list []api.Package
	for _, h := range samples.AllHeld(text) {
		list = append(list, h.Package)
	}
	return list
}

// step is one thing that is done to what is held.
type step struct {
	out  string
	in   *api.Held
	mark string
}

// stepsTo tells what leads from one set to another, things that go first; marks of what stays are turned.
func stepsTo(from, to []api.Held) (out, in, marks []step) {
	for _, h := range from {
		at := slices.IndexFunc(to, func(other api.Held) bool { return keyOf(other) == keyOf(h) })
		if at < 0 {
			out = append(out, step{out: h.Name})
		} else if to[at].Mark != h.Mark {
			marks = append(marks, step{mark: h.Name})
		}
	}
	for i, h := range to {
		if !slices.ContainsFunc(from, func(other api.Held) bool { return keyOf(other) == keyOf(h) }) {
			in = append(in, step{in: &to[i]})
		}
	}
	return out, in, marks
}

// commits tells states behind steps, so many at once, all of a change of their own.
func commits(s api.State, atOnce int, steps ...step) api.State {
	group := s.Seq + 1
	for chunk := range slices.Chunk(steps, atOnce) {
		c := api.Commit{Seq: s.Seq + 1, Group: group}
		for _, x := range chunk {
			switch {
			case x.in != nil:
				c.In = append(c.In, *x.in)
			case x.mark != "":
				c.Marks = append(c.Marks, x.mark)
			default:
				c.Out = append(c.Out, x.out)
			}
		}
		s = samples.Must(status.Apply(s, c))
	}
	return s
}

// ways are roads from what is held to another set: all at once, one by one, and with something that stays going and coming again.
func ways(s api.State, to []api.Held) []api.State {
	out, in, marks := stepsTo(s.Held, to)
	steps := slices.Concat(out, in, marks)
	all := []api.State{commits(s, len(steps)+1, steps...), commits(s, 1, steps...), commits(s, 2, slices.Concat(out, in)...)}
	group := s.Seq + 1
	all[2] = turned(all[2], group, marks)
	for _, h := range to {
		if slices.ContainsFunc(s.Held, func(other api.Held) bool { return keyOf(other) == keyOf(h) && other.Mark == h.Mark }) {
			return append(all, commits(s, 1, append([]step{{out: h.Name}, {in: &h}}, steps...)...))
		}
	}
	return all
}

// turned turns marks, if there are any, by one commit of a Group.
func turned(s api.State, group int, marks []step) api.State {
	if len(marks) == 0 {
		return s
	}
	c := api.Commit{Seq: s.Seq + 1, Group: group}
	for _, x := range marks {
		c.Marks = append(c.Marks, x.mark)
	}
	return samples.Must(status.Apply(s, c))
}

// reachable tells whether the target of Undo may be reached from a state. (Where a package of both has another stanza now, another one that is to come may have one of its paths.)
func reachable(s api.State, target []api.Held) bool {
	return s.Seq < api.MaxSeq-1000 && status.Check(api.State{Held: target}) == api.OK
}

// holdUndone is P22.6: where the target of Undo is reached by commits of a Group of their own, Undo tells what was held ahead of them, and then the target again.
func holdUndone(t *testing.T, what string, s api.State) {
	t.Helper()
	_, target, e := history.Undo(s)
	if e != api.OK || !reachable(s, target) {
		return
	}
	for i, back := range ways(s, target) {
		if !sameHeld(back.Held, target) || back.Group != s.Seq+1 {
			t.Fatalf("%s, the way %d: %v is held, not %v", what, i, back.Held, target)
		}
		if len(back.Past) < 40 { // of a longer one all takes long
			hold(t, what, back)
		}
		_, first, e := history.Undo(back)
		if e != api.OK || !sameHeld(first, s.Held) {
			t.Fatalf("P22.6: %s, the way %d: Undo = %v, %d, want %v", what, i, first, e, s.Held)
		}
		for j, forth := range ways(back, first) {
			_, second, e := history.Undo(forth)
			if e != api.OK || !sameHeld(second, target) || !sameHeld(forth.Held, s.Held) {
				t.Fatalf("P22.6: %s, the ways %d and %d: Undo = %v, %d, want %v", what, i, j, second, e, target)
			}
		}
	}
}
