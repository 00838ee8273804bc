package history_test

import (
	"slices"
	"testing"

	"larder/api"
	"larder/history"
	"larder/samples"
	"larder/status"
)

// full is a state whose packages have all that one may have, some of which were held before with another stanza.
func full() api.State {
	held := func(name, version string, mark int, paths ...string) api.Held {
		p := samples.Full(name, version)
		p.Files = nil
		for _, path := range paths {
			p.Files = append(p.Files, api.File{Path: path})
		}
		return api.Held{Package: p, Mark: mark}
	}
	aa, was := held("aa", "1", 1, "a", "b"), held("aa", "1", 0, "c")
	was.Summary = "otherwise"
	dd := held("dd", "1", 1, "d", "e")
	return api.State{
		Seq: 9, Group: 8,
		Held:   []api.Held{aa, held("bb", "2", 0, "f"), dd},
		Before: []api.Held{was, held("bb", "1", 1, "b", "f"), held("cc", "1", 0), dd},
		Past:   entriesOf("6 5 +aa=1 +dd=1; 7 5 +bb=1 +cc=1; 8 8 -aa=1 -bb=1 +bb=2; 9 8 -cc=1 +aa=1"),
	}
}

// given is what the calls are handed.
type given struct {
	s api.State
	l []api.Entry
}

// sample makes what has an answer to each call, in lists with room beyond their ends.
func sample() given {
	return given{samples.RoomyState(full()), samples.RoomyState(api.State{Past: full().Past}).Past}
}

// room tells a copy of all that has room there.
func (g given) room() given {
	return given{samples.ExtentOfState(g.s), samples.ExtentOfState(api.State{Past: g.l}).Past}
}

// spoil writes over all that has room there.
func (g given) spoil() {
	samples.SpoilState(g.s)
	samples.SpoilState(api.State{Past: g.l})
}

// heard is what the calls answer.
type heard struct {
	entries, changes, of, parsed []api.Entry
	now, then                    []api.Key
	u                            []api.Package
	target                       []api.Held
	text                         string
}

func (g given) hear(t *testing.T) heard {
	t.Helper()
	var h heard
	errors := make([]api.Errno, 7)
	h.entries, errors[0] = history.Entries(g.s)
	h.changes, errors[1] = history.Changes(g.s)
	h.of, errors[2] = history.Of(g.s, "aa")
	h.now, errors[3] = history.At(g.s, 9)
	h.then, errors[4] = history.At(g.s, 7)
	h.u, h.target, errors[5] = history.Undo(g.s)
	h.text = history.Text(g.l)
	h.parsed, _, errors[6] = history.Parse(textOf(full().Past))
	if slices.ContainsFunc(errors, func(e api.Errno) bool { return e != api.OK }) {
		t.Fatalf("the sample is no good: errors %v", errors)
	}
	return h
}

// spoil writes over all that was answered.
func (h heard) spoil() {
	for _, l := range [][]api.Entry{h.entries, h.changes, h.of, h.parsed} {
		samples.SpoilState(api.State{Past: l})
	}
	samples.Fill(h.now, api.Key{Name: "spoiled"})
	samples.Fill(h.then, api.Key{Name: "spoiled"})
	samples.SpoilPackages(h.u)
	samples.SpoilHeld(h.target)
}

// want is what they should answer.
func want() string {
	s := full()
	aa := s.Before[0]
	aa.Package = s.Held[0].Package
	return told(heard{
		entries: full().Past,
		changes: entriesOf("7 5 +aa=1 +bb=1 +cc=1 +dd=1; 9 8 -bb=1 -cc=1 +bb=2"),
		of:      entriesOf("6 5 +aa=1 +dd=1; 8 8 -aa=1 -bb=1 +bb=2; 9 8 -cc=1 +aa=1"),
		parsed:  full().Past,
		now:     samples.Keys("aa=1 bb=2 dd=1"),
		then:    samples.Keys("aa=1 bb=1 cc=1 dd=1"),
		u:       []api.Package{s.Held[0].Package, s.Before[1].Package, s.Held[1].Package, s.Before[2].Package, s.Held[2].Package},
		target:  []api.Held{aa, s.Before[1], s.Before[2], s.Before[3]},
		text:    textOf(full().Past),
	})
}

// Memory: what is handed in is not changed, and not kept.
func TestGiven(t *testing.T) {
	t.Parallel()
	g := sample()
	was := told(g.room())
	h := g.hear(t)
	if told(h) != want() {
		t.Fatalf("P22.1 to P22.5: %s, want %s", told(h), want())
	}
	if told(g.room()) != was {
		t.Error("Memory: what was handed in is changed")
	}
	g.spoil()
	if told(h) != want() {
		t.Errorf("Memory: what was answered changes with what was handed in: %s", told(h))
	}
}

// Memory: what is answered is new each time.
func TestAnswered(t *testing.T) {
	t.Parallel()
	g := sample()
	was := told(g.room())
	first, second := g.hear(t), g.hear(t)
	first.spoil()
	if told(second) != want() || told(g.room()) != was {
		t.Error("Memory: what is answered is shared")
	}
	if third := g.hear(t); told(third) != want() {
		t.Error("Memory: what was answered is kept")
	}
}

// Memory: no two lists of what is answered share memory, nor do they with what was handed in.
func TestApart(t *testing.T) {
	t.Parallel()
	g := sample()
	h, again := g.hear(t), g.hear(t)
	if !samples.EntriesApart(g.s.Past, g.l, h.entries, h.changes, h.of, h.parsed, again.entries, again.changes, again.of, again.parsed) {
		t.Error("Memory: entries share memory")
	}
	keys := [][]api.Key{h.now, h.then, again.now, again.then}
	for _, entry := range slices.Concat(g.s.Past, h.entries, h.changes, h.of) {
		keys = append(keys, entry.Out, entry.In)
	}
	if !samples.Apart(keys...) {
		t.Error("Memory: keys share memory")
	}
	var ps []api.Package
	for _, p := range slices.Concat(g.s.Held, g.s.Before, h.target, again.target) {
		ps = append(ps, p.Package)
	}
	if !samples.PackagesApart(slices.Concat(ps, h.u, again.u)...) || !samples.Apart(h.u, again.u) || !samples.Apart(g.s.Held, g.s.Before, h.target, again.target) {
		t.Error("Memory: packages share memory")
	}
}

// Memory: lists of what is handed in may be one another's: Before may be Held, all entries may have one list of keys.
func TestSharedGiven(t *testing.T) {
	t.Parallel()
	held := []api.Held{{Package: samples.Full("aa", "1")}, {Package: samples.Package("bb 1")}}
	keys := samples.Keys("aa=1 bb=1 cc=1")
	s := api.State{Seq: 4, Group: 4, Held: held[:1], Before: held, Past: []api.Entry{{Seq: 3, Group: 3, In: keys[:2]}, {Seq: 4, Group: 4, Out: keys[1:2]}}}
	was := told(samples.ExtentOfState(s))
	hold(t, "shared lists", s)
	entries, _ := history.Entries(s)
	changes, _ := history.Changes(s)
	of, _ := history.Of(s, "bb")
	u, target, _ := history.Undo(s)
	lists := [][]api.Key{keys}
	for _, entry := range slices.Concat(entries, changes, of) {
		lists = append(lists, entry.Out, entry.In)
	}
	if !samples.Apart(lists...) || !samples.Apart(s.Past, entries, changes, of) {
		t.Error("Memory: entries share memory")
	}
	if !samples.PackagesApart(u[0], u[1], target[0].Package, target[1].Package, held[0].Package, held[1].Package) {
		t.Error("Memory: packages share memory")
	}
	samples.SpoilPackages(u)
	samples.SpoilHeld(target)
	for _, l := range [][]api.Entry{entries, changes, of} {
		samples.SpoilState(api.State{Past: l})
	}
	if told(samples.ExtentOfState(s)) != was {
		t.Error("Memory: what was handed in changes with what was answered")
	}
}

// Memory: nothing that is handed in is changed when it is refused.
func TestRefusedIsKept(t *testing.T) {
	t.Parallel()
	for what, bad := range noStates() {
		s := samples.RoomyState(bad)
		was := told(samples.ExtentOfState(s))
		holdNone(t, what, s)
		if told(samples.ExtentOfState(s)) != was {
			t.Errorf("Memory: %s: what was handed in is changed", what)
		}
	}
	s := samples.RoomyState(api.State{Seq: 1, Held: samples.AllHeld("aa 1"), Before: samples.AllHeld("bb 1")})
	was := told(samples.ExtentOfState(s))
	hold(t, "nothing to undo", s)
	if told(samples.ExtentOfState(s)) != was {
		t.Error("Memory: what was handed in is changed where there is nothing to undo")
	}
}

// Nil and empty are one.
func TestNilAndEmpty(t *testing.T) {
	t.Parallel()
	for _, held := range [][]api.Held{nil, {}, make([]api.Held, 0, 3)} {
		for _, keys := range [][]api.Key{nil, {}, make([]api.Key, 0, 3)} {
			for _, before := range [][]api.Held{nil, {}, samples.AllHeld("aa 1")} {
				hold(t, "empty lists", api.State{Seq: 1, Group: 1, Held: held, Before: before, Past: []api.Entry{{Seq: 1, Group: 1, Out: keys, In: keys}}})
				hold(t, "no entries", api.State{Seq: 1, Group: 1, Held: held, Before: before, Past: []api.Entry{}})
			}
			if got := history.Text([]api.Entry{{Seq: 1, Group: 1, Out: keys, In: keys}}); got != "1 1\n" {
				t.Errorf("P22.5: Text = %q", got)
			}
		}
	}
	p := api.Package{Name: "aa", Version: "1", Depends: []api.Clause{}, PreDepends: []api.Clause{}, Conflicts: []api.Atom{}, Provides: []string{}, Files: []api.File{}}
	s := api.State{Seq: 1, Group: 1, Held: []api.Held{{Package: p}}, Before: samples.AllHeld("aa 1")}
	hold(t, "empty lists of a package", s)
	if _, _, e := history.Undo(s); e != api.ErrHisNone {
		t.Errorf("P22.4: Undo = %d", e)
	}
	if got := history.Text([]api.Entry{}); got != "" {
		t.Errorf("P22.5: Text of nothing = %q", got)
	}
}

// What is answered of a state hangs on it alone: asked again, and of a copy, it is the same.
func TestSameAgain(t *testing.T) {
	t.Parallel()
	s := api.State{}
	for i := range 12 {
		s = played(s, []string{"in aa 1; in bb 1; in cc 1; in dd 1; in ee 1; in ff 1; in gg 1; in hh 1", "out aa bb cc dd ee ff gg hh"}[i%2])
	}
	if e := status.Check(s); e != api.OK {
		t.Fatalf("P16.1: Check = %d", e)
	}
	var first string
	for i := range 50 {
		changes, _ := history.Changes(s)
		keys, _ := history.At(s, 9)
		u, target, _ := history.Undo(s)
		if again := told(changes, keys, u, target); i == 0 {
			first = again
		} else if again != first {
			t.Fatalf("P22.2 to P22.4: %s, then %s", first, again)
		}
	}
}
