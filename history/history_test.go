package history_test

import (
	"fmt"
	"slices"
	"strings"
	"testing"

	"larder/api"
	"larder/history"
	"larder/samples"
	"larder/status"
)

// The chapter's examples.
func TestExamples(t *testing.T) {
	t.Parallel()
	s := played(api.State{}, "in aa 1", "in bb 1; group 1", "out aa")
	l, e := history.Changes(s)
	if e != api.OK || told(l) != told(entriesOf("2 1 +aa=1 +bb=1; 3 3 -aa=1")) {
		t.Errorf("P22.2: Changes = %v, %d", l, e)
	}
	if keys, e := history.At(s, 2); e != api.OK || !slices.Equal(keys, samples.Keys("aa=1 bb=1")) {
		t.Errorf("P22.3: At 2 = %v, %d", keys, e)
	}
	u, target, e := history.Undo(s)
	if e != api.OK || told(target) != told(samples.AllHeld("aa 1; bb 1")) || told(u) != told(samples.Packages("aa 1; bb 1")) {
		t.Errorf("P22.4: Undo = %v, %v, %d", u, target, e)
	}
	l, e = history.Entries(s)
	if e != api.OK || len(l) != 3 || history.Text(l[2:]) != "3 3 -aa=1\n" {
		t.Errorf("P22.5: Entries = %v, %d", l, e)
	}
	s = api.State{Seq: 2, Group: 2, Held: samples.AllHeld("aa 1 x:ho; bb 1"), Before: samples.AllHeld("aa 1 x:hi"), Past: entriesOf("1 1 +aa=1; 2 2 -aa=1 +aa=1 +bb=1")}
	u, target, e = history.Undo(s)
	if e != api.OK || told(target) != told(samples.AllHeld("aa 1 x:ho")) || told(u[0]) != told(target[0].Package) {
		t.Errorf("P22.4: Undo = %v, %v, %d", u, target, e)
	}
}

// tale is a history with what is told of it.
type tale struct {
	what    string
	works   []string
	entries string
	changes string
}

// tales are histories that the document speaks of.
func tales() []tale {
	return []tale{
		{"nothing", nil, "", ""},
		{"one commit", []string{"in bb 1; in cc 1.0-3 auto"}, "1 1 +bb=1 +cc=1.0-3", "1 1 +bb=1 +cc=1.0-3"},
		{"changes of one commit each", []string{"in bb 1", "in aa 1", "out bb"}, "1 1 +bb=1; 2 2 +aa=1; 3 3 -bb=1", "1 1 +bb=1; 2 2 +aa=1; 3 3 -bb=1"},
		{"one change of three", []string{"in bb 1", "in aa 1; group 1", "in cc 1; group 1"}, "1 1 +bb=1; 2 1 +aa=1; 3 1 +cc=1", "3 1 +aa=1 +bb=1 +cc=1"},
		{"two changes of two", []string{"in bb 1", "in aa 1; group 1", "out bb", "in cc 1; group 3"}, "1 1 +bb=1; 2 1 +aa=1; 3 3 -bb=1; 4 3 +cc=1", "2 1 +aa=1 +bb=1; 4 3 -bb=1 +cc=1"},
		{"another version", []string{"in aa 1", "out aa; in aa 2"}, "1 1 +aa=1; 2 2 -aa=1 +aa=2", "1 1 +aa=1; 2 2 -aa=1 +aa=2"},
		{"another version by the way of none", []string{"in aa 1", "out aa", "in aa 2; group 2"}, "1 1 +aa=1; 2 2 -aa=1; 3 2 +aa=2", "1 1 +aa=1; 3 2 -aa=1 +aa=2"},
		{"another version by the way of a third", []string{"in aa 1", "out aa; in aa 2", "out aa; in aa 3; group 2"}, "1 1 +aa=1; 2 2 -aa=1 +aa=2; 3 2 -aa=2 +aa=3", "1 1 +aa=1; 3 2 -aa=1 +aa=3"},
		{"a version whose order is the same", []string{"in aa 1.0", "out aa; in aa 1.00"}, "1 1 +aa=1.0; 2 2 -aa=1.0 +aa=1.00", "1 1 +aa=1.0; 2 2 -aa=1.0 +aa=1.00"},
		{"a change that leaves nothing: it goes and comes", []string{"in aa 1", "out aa", "in aa 1; group 2"}, "1 1 +aa=1; 2 2 -aa=1; 3 2 +aa=1", "1 1 +aa=1; 3 2"},
		{"a change that leaves nothing: it comes and goes", []string{"in aa 1", "in bb 1", "out bb; group 2"}, "1 1 +aa=1; 2 2 +bb=1; 3 2 -bb=1", "1 1 +aa=1; 3 2"},
		{"a change that leaves nothing: both at once", []string{"in aa 1", "out aa; in aa 1"}, "1 1 +aa=1; 2 2 -aa=1 +aa=1", "1 1 +aa=1; 2 2"},
		{"a change that leaves nothing: another version and back", []string{"in aa 1", "out aa; in aa 2", "out aa; in aa 1; group 2"}, "1 1 +aa=1; 2 2 -aa=1 +aa=2; 3 2 -aa=2 +aa=1", "1 1 +aa=1; 3 2"},
		{"a change of marks alone", []string{"in aa 1", "mark aa"}, "1 1 +aa=1; 2 2", "1 1 +aa=1; 2 2"},
		{"a change that begins with nothing", []string{"in aa 1", "", "in bb 1; group 2"}, "1 1 +aa=1; 2 2; 3 2 +bb=1", "1 1 +aa=1; 3 2 +bb=1"},
		{"a change that ends with nothing", []string{"in aa 1", "in bb 1", "mark bb; group 2"}, "1 1 +aa=1; 2 2 +bb=1; 3 2", "1 1 +aa=1; 3 2 +bb=1"},
		{"it goes and comes with another stanza", []string{"in aa 1 x:hi", "out aa", "in aa 1 y:hi; group 2"}, "1 1 +aa=1; 2 2 -aa=1; 3 2 +aa=1", "1 1 +aa=1; 3 2"},
		{"one comes and goes, the other goes and comes, a third stays away", []string{"in aa 1; in cc 1", "out aa; in bb 1", "out bb cc; in aa 1; group 2"}, "1 1 +aa=1 +cc=1; 2 2 -aa=1 +bb=1; 3 2 -bb=1 -cc=1 +aa=1", "1 1 +aa=1 +cc=1; 3 2 -cc=1"},
		{"all go", []string{"in aa 1; in bb 1", "out bb", "out aa; group 2"}, "1 1 +aa=1 +bb=1; 2 2 -bb=1; 3 2 -aa=1", "1 1 +aa=1 +bb=1; 3 2 -aa=1 -bb=1"},
		{"names put in order as texts", []string{"in b1 1; in b10 1", "in b+ 1; in b2 1; group 1"}, "1 1 +b1=1 +b10=1; 2 1 +b+=1 +b2=1", "2 1 +b+=1 +b1=1 +b10=1 +b2=1"},
	}
}

// P22.1, P22.2: what is told of histories that the document speaks of.
func TestTales(t *testing.T) {
	t.Parallel()
	for _, c := range tales() {
		s := played(api.State{}, c.works...)
		if l, e := history.Entries(s); e != api.OK || told(l) != told(entriesOf(c.entries)) {
			t.Errorf("P22.1: %s: Entries = %v, %d", c.what, l, e)
		}
		if l, e := history.Changes(s); e != api.OK || told(l) != told(entriesOf(c.changes)) {
			t.Errorf("P22.2: %s: Changes = %v, %d", c.what, l, e)
		}
		hold(t, c.what, s)
	}
}

// P22.2: of a change whose first commits the history no longer has, what the others did.
func TestFirstCommitsLost(t *testing.T) {
	t.Parallel()
	works := []string{"in aa 1; in bb 1", "out aa; in cc 1; group 1", "out bb; group 1", "in aa 1; group 1", "out cc; in dd 1", "out dd; group 5"}
	whole := played(api.State{}, works...)
	for lost, want := range []string{
		"4 1 +aa=1 +cc=1; 6 5 -cc=1",
		"4 1 -bb=1 +cc=1; 6 5 -cc=1",
		"4 1 -bb=1 +aa=1; 6 5 -cc=1",
		"4 1 +aa=1; 6 5 -cc=1",
		"6 5 -cc=1",
		"6 5 -dd=1",
		"",
	} {
		s := whole
		s.Past = s.Past[lost:]
		if l, e := history.Changes(s); e != api.OK || told(l) != told(entriesOf(want)) {
			t.Errorf("P22.2: without %d: Changes = %v, %d, want %s", lost, l, e, want)
		}
		hold(t, fmt.Sprint("without ", lost), s)
	}
}

// P22.1: of a name that never stood, that went alone, that came alone, that did both.
func TestOf(t *testing.T) {
	t.Parallel()
	s := played(api.State{}, "in aa 1; in ab 1", "in bb 1", "out aa; in cc 1", "", "out bb; in bb 2; group 4", "mark cc")
	s.Past = s.Past[1:]
	for name, want := range map[string]string{
		"aa":                     "3 3 -aa=1 +cc=1",
		"bb":                     "2 2 +bb=1; 5 4 -bb=1 +bb=2",
		"cc":                     "3 3 -aa=1 +cc=1",
		"ab":                     "", // it came ahead of all that the history has
		"a":                      "",
		"":                       "",
		"b":                      "",
		"bbb":                    "",
		"aa=1":                   "",
		"AA":                     "",
		"1":                      "",
		"2":                      "",
		"-aa":                    "",
		"aa\x00":                 "",
		strings.Repeat("a", 999): "",
	} {
		if l, e := history.Of(s, name); e != api.OK || told(l) != told(entriesOf(want)) {
			t.Errorf("P22.1: Of %.9q = %v, %d, want %s", name, l, e, want)
		}
	}
}

// P22.3: of what nothing was done to, or only later.
func TestAtEdges(t *testing.T) {
	t.Parallel()
	for _, c := range []struct {
		what string
		s    api.State
		want []string // from the lowest number on
	}{
		{"nothing", api.State{}, []string{""}},
		{"a state without a history", api.State{Seq: 7, Held: samples.AllHeld("aa 1; bb 1")}, []string{"aa=1 bb=1"}},
		{"the last number", api.State{Seq: api.MaxSeq, Group: 1, Held: samples.AllHeld("aa 1"), Past: []api.Entry{{Seq: api.MaxSeq, Group: 1, Out: samples.Keys("bb=1"), In: samples.Keys("aa=1")}}}, []string{"bb=1", "aa=1"}},
		{"names between names", played(api.State{}, "in bb 1; in dd 1; in ff 1", "in aa 1; in cc 1; in gg 1", "out dd; in ee 1"), []string{"", "bb=1 dd=1 ff=1", "aa=1 bb=1 cc=1 dd=1 ff=1 gg=1", "aa=1 bb=1 cc=1 ee=1 ff=1 gg=1"}},
		{"marks alone", played(api.State{}, "in aa 1", "mark aa", "mark aa"), []string{"", "aa=1", "aa=1", "aa=1"}},
	} {
		for i, want := range c.want {
			seq := c.s.Seq - len(c.want) + 1 + i
			if keys, e := history.At(c.s, seq); e != api.OK || !slices.Equal(keys, samples.Keys(want)) {
				t.Errorf("P22.3: %s: At %d = %v, %d, want %s", c.what, seq, keys, e, want)
			}
		}
		if len(c.want) != len(c.s.Past)+1 {
			t.Errorf("%s: %d numbers are asked", c.what, len(c.want))
		}
		hold(t, c.what, c.s)
	}
}

// noStates are states that may not be, by what is wrong with them.
func noStates() map[string]api.State {
	whole := func(change func(s *api.State)) api.State {
		s := played(api.State{}, "in aa 1 x:hi; in bb 1 y:hi", "in cc 1", "out cc")
		change(&s)
		return s
	}
	return map[string]api.State{
		"a number below 0":        whole(func(s *api.State) { s.Seq = -1 }),
		"a number below 0 alone":  {Seq: -1},
		"a number above the last": {Seq: api.MaxSeq + 1},
		"another number":          whole(func(s *api.State) { s.Seq = 4 }),
		"a Group below 0":         whole(func(s *api.State) { s.Group = -1 }),
		"a Group above Seq":       whole(func(s *api.State) { s.Group = 4 }),
		"names that fall":         whole(func(s *api.State) { slices.Reverse(s.Held) }),
		"a name twice":            whole(func(s *api.State) { s.Before = samples.AllHeld("aa 1; aa 2") }),
		"a path twice":            whole(func(s *api.State) { s.Before = samples.AllHeld("aa 1 x:hi; bb 1 x:hi") }),
		"a path twice, now":       whole(func(s *api.State) { s.Held[1].Files = s.Held[0].Files }),
		"no mark":                 whole(func(s *api.State) { s.Held[0].Mark = 2 }),
		"no mark, before":         whole(func(s *api.State) { s.Before[0].Mark = -1 }),
		"no name":                 whole(func(s *api.State) { s.Before = samples.AllHeld("a 1") }),
		"no version":              whole(func(s *api.State) { s.Before[0].Version = "x" }),
		"an entry between lost":   whole(func(s *api.State) { s.Past = append(s.Past[:1:1], s.Past[2]) }),
		"an entry twice":          whole(func(s *api.State) { s.Past = append(s.Past[:2:2], s.Past[1:]...) }),
		"Groups that fall":        whole(func(s *api.State) { s.Past[2].Group = 1 }),
		"an entry of Group 0":     whole(func(s *api.State) { s.Past[0].Group = 0 }),
		"keys that fall":          whole(func(s *api.State) { slices.Reverse(s.Past[0].In) }),
		"a key without a name":    whole(func(s *api.State) { s.Past[2].Out = append(samples.Keys("=1"), s.Past[2].Out...) }),
		"a key without a version": whole(func(s *api.State) { s.Past[2].Out[0].Version = "" }),
		"what came is not held":   whole(func(s *api.State) { s.Past[2].In = samples.Keys("dd=1") }),
		"what came is another":    whole(func(s *api.State) { s.Past[0].In[0].Version = "2" }),
		"what went is held":       whole(func(s *api.State) { s.Past[2].Out = samples.Keys("aa=1") }),
		"too many entries":        whole(func(s *api.State) { s.Seq, s.Past = 257, emptyEntries(257) }),
		"all at once":             {Seq: -7, Group: 9, Held: samples.AllHeld("bb 1; aa 1"), Past: entriesOf("9 9 +zz=1")},
	}
}

// emptyEntries tells so many entries that have nothing.
func emptyEntries(n int) []api.Entry {
	list := make([]api.Entry, n)
	for i := range list {
		list[i] = api.Entry{Seq: i + 1, Group: i + 1}
	}
	return list
}

// P22.1 to P22.4: of a state that may not be nothing is told; this comes ahead of all other errors.
func TestNoStates(t *testing.T) {
	t.Parallel()
	for what, s := range noStates() {
		if status.Check(s) == api.OK {
			t.Errorf("%s: the state may be", what)
		}
		holdNone(t, what, s)
		s.Group, s.Before = 0, s.Held
		if status.Check(s) != api.OK {
			holdNone(t, what+", and nothing to undo", s)
		}
	}
}

// P22.1 to P22.4: of a state that is not Valid all is told: only Check is asked.
func TestNotValid(t *testing.T) {
	t.Parallel()
	s := played(api.State{}, "in aa 1 depends=zz; in bb 1 conflicts=aa", "out aa; in cc 1 pre=cc")
	hold(t, "not Valid", s)
	if _, target, e := history.Undo(s); e != api.OK || len(target) != 2 {
		t.Errorf("P22.4: Undo = %v, %d", target, e)
	}
	hold(t, "not Valid, a Group below the last entry's", api.State{Seq: 2, Group: 1, Held: samples.AllHeld("aa 1 pre=bb"), Past: entriesOf("1 1; 2 2 +aa=1")})
}

// P22.1 to P22.3: as many entries as a state keeps, one less and more.
func TestManyCommits(t *testing.T) {
	t.Parallel()
	for _, group := range []int{1, 7, 1000} {
		s := api.State{}
		for i := range 600 {
			work := fmt.Sprintf("in p%03d 1", i%50)
			if i%100 >= 50 {
				work = fmt.Sprintf("out p%03d", i%50)
			}
			if i%group > 0 {
				work += fmt.Sprint("; group ", s.Group)
			}
			s = played(s, work)
			if s.Seq == 256 || s.Seq == 257 || s.Seq == 600 {
				hold(t, fmt.Sprintf("%d commits, %d a change", s.Seq, group), s)
			}
		}
		l, e := history.Entries(s)
		if e != api.OK || len(l) != 256 || l[0].Seq != 345 || l[255].Seq != 600 {
			t.Errorf("P22.1: Entries = %d entries, %d", len(l), e)
		}
		l, e = history.Changes(s)
		if want := len(slices.CompactFunc(slices.Clone(s.Past), func(a, b api.Entry) bool { return a.Group == b.Group })); e != api.OK || len(l) != want || l[want-1].Seq != 600 {
			t.Errorf("P22.2: Changes = %d entries, %d, want %d", len(l), e, want)
		}
	}
}
