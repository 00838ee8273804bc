package journal_test

import (
	"strings"
	"testing"

	"larder/api"
	"larder/journal"
	"larder/samples"
	"larder/store"
)

func TestExamples(t *testing.T) {
	t.Parallel()
	s := diskOf(frameOf("one") + frameOf("two")[:15])
	j := opened(t, "example 2", s, []string{"one"}, 15)
	if e := j.Append([]byte("x")); e != api.ErrJrnTorn {
		t.Errorf("P15.3: example 2: Append: %v", e)
	}
	if e := j.Cut(); e != api.OK || contents(s) != frameOf("one") {
		t.Errorf("P15.3: example 2: Cut: %v, %q", e, contents(s))
	}
	holdTold(t, "P15.3: example 2", j, []string{"one"}, 0)
	s = samples.Must(store.New(99))
	j = opened(t, "example 3", s, nil, 0)
	if len(s.Image()) != 0 {
		t.Errorf("P15.2: example 3: Open makes a file")
	}
	if e := j.Append([]byte("one")); e != api.OK || contents(s) != frameOf("one") {
		t.Errorf("P15.3: example 3: Append: %v, %q", e, contents(s))
	}
	if j, e := journal.Open(s, "a b"); j != nil || e != api.ErrStoName {
		t.Errorf("P15.2: example 4: %v", e)
	}
}

func TestOpen(t *testing.T) {
	t.Parallel()
	dead := diskOf(framesOf("one"))
	dead.Fuse(0)
	dead.Sync()
	for _, c := range []struct {
		why  string
		disk *store.Store
		name string
		e    api.Errno
	}{
		{"no store", nil, file, api.ErrArg},
		{"no store, no name", nil, "", api.ErrArg},
		{"no power", dead, file, api.ErrStoDead},
		{"no power, no file", dead, "none", api.ErrStoDead},
		{"no power, no name", dead, "a b", api.ErrStoDead},
		{"no name", diskOf(""), "", api.ErrStoName},
		{"a blank", diskOf(""), "a b", api.ErrStoName},
		{"259 bytes", diskOf(""), strings.Repeat("x", 259), api.ErrStoName},
	} {
		ahead := toldBy(c.disk)
		j, e := journal.Open(c.disk, c.name)
		if j != nil || e != c.e {
			t.Errorf("P15.2: %s: %v, want nil, %v", c.why, e, c.e)
		}
		if toldBy(c.disk) != ahead {
			t.Errorf("P15.2: %s: something is changed", c.why)
		}
	}
	for _, c := range []struct {
		why, data string
		bodies    []string
		torn      int
	}{
		{"no bytes", "", nil, 0},
		{"frames", framesOf("one", "", "two"), []string{"one", "", "two"}, 0},
		{"torn", framesOf("one", "two") + "LAR", []string{"one", "two"}, 3},
		{"torn from the beginning", frameOf("one")[:18], nil, 18},
		{"a frame behind what is torn", frameOf("one") + "x" + frameOf("two"), []string{"one"}, 20},
	} {
		opened(t, "P15.2: "+c.why, diskOf(c.data), c.bodies, c.torn)
	}
	for _, name := range []string{"x", "~", strings.Repeat("x", 258)} {
		s := samples.Must(store.Load([]api.Blob{{Name: name, Data: []byte(framesOf("of it"))}, {Name: "~~", Data: []byte(framesOf("another"))}}, 99))
		if j, e := journal.Open(s, name); e != api.OK {
			t.Errorf("P15.2: Open(%q): %v", name, e)
		} else {
			holdTold(t, "P15.2: "+name, j, []string{"of it"}, 0)
		}
	}
}

// P15.2: what is seen counts, whether it is durable or not.
func TestOpenSeen(t *testing.T) {
	t.Parallel()
	s := diskOf(framesOf("one"))
	s.Write(file, []byte(framesOf("two", "three")+"x"))
	opened(t, "P15.2: written over", s, []string{"two", "three"}, 1)
	s.Remove(file)
	opened(t, "P15.2: removed", s, nil, 0)
	s.Crash(api.Choice{})
	opened(t, "P15.2: there again", s, []string{"one"}, 0)
}

// step is a call of a journal, the store's changing calls and pending operations behind it, and what is told then.
type step struct {
	call           func(*journal.Journal) api.Errno
	e              api.Errno
	calls, pending int
	bodies         []string
	torn           int
	file           string
}

func adding(body string) func(*journal.Journal) api.Errno {
	return func(j *journal.Journal) api.Errno { return j.Append([]byte(body)) }
}

func steps(t *testing.T, what string, s *store.Store, j *journal.Journal, list []step) {
	t.Helper()
	for i, c := range list {
		if e := c.call(j); e != c.e {
			t.Errorf("P15.3: %s: step %d: %v, want %v", what, i, e, c.e)
		}
		if s.Calls() != c.calls || s.Pending() != c.pending || contents(s) != c.file {
			t.Errorf("P15.3: %s: step %d: %d calls, %d pending, %q, want %d, %d, %q", what, i, s.Calls(), s.Pending(), contents(s), c.calls, c.pending, c.file)
		}
		holdTold(t, "P15.3: "+what, j, c.bodies, c.torn)
	}
}

func TestSteps(t *testing.T) {
	t.Parallel()
	cut, sync, reset := (*journal.Journal).Cut, (*journal.Journal).Sync, (*journal.Journal).Reset
	s := samples.Must(store.New(99))
	s.Write("other", []byte("stays"))
	steps(t, "from no file on", s, opened(t, "", s, nil, 0), []step{
		{cut, api.OK, 1, 1, nil, 0, ""},
		{adding("one"), api.OK, 2, 2, []string{"one"}, 0, framesOf("one")},
		{adding(""), api.OK, 3, 3, []string{"one", ""}, 0, framesOf("one", "")},
		{cut, api.OK, 3, 3, []string{"one", ""}, 0, framesOf("one", "")},
		{sync, api.OK, 4, 0, []string{"one", ""}, 0, framesOf("one", "")},
		{sync, api.OK, 5, 0, []string{"one", ""}, 0, framesOf("one", "")},
		{adding("two"), api.OK, 6, 1, []string{"one", "", "two"}, 0, framesOf("one", "", "two")},
		{reset, api.OK, 8, 0, nil, 0, ""},
		{reset, api.OK, 9, 0, nil, 0, ""},
		{adding("three"), api.OK, 10, 1, []string{"three"}, 0, framesOf("three")},
		{adding("four"), api.OK, 11, 2, []string{"three", "four"}, 0, framesOf("three", "four")},
		{sync, api.OK, 12, 0, []string{"three", "four"}, 0, framesOf("three", "four")},
	})
	if data, e := s.Read("other"); string(data) != "stays" || e != api.OK {
		t.Errorf("P15.3: another file: %q, %v", data, e)
	}
	s = diskOf("")
	steps(t, "a file without bytes", s, opened(t, "", s, nil, 0), []step{
		{adding("one"), api.OK, 1, 1, []string{"one"}, 0, framesOf("one")},
		{reset, api.OK, 3, 0, nil, 0, ""},
	})
	torn := framesOf("one", "two") + frameOf("three")[:20]
	s = diskOf(torn)
	steps(t, "torn", s, opened(t, "", s, []string{"one", "two"}, 20), []step{
		{adding("x"), api.ErrJrnTorn, 0, 0, []string{"one", "two"}, 20, torn},
		{sync, api.OK, 1, 0, []string{"one", "two"}, 20, torn},
		{cut, api.OK, 3, 0, []string{"one", "two"}, 0, framesOf("one", "two")},
		{cut, api.OK, 3, 0, []string{"one", "two"}, 0, framesOf("one", "two")},
		{adding("x"), api.OK, 4, 1, []string{"one", "two", "x"}, 0, framesOf("one", "two", "x")},
	})
	s = diskOf(torn)
	steps(t, "torn, taken away", s, opened(t, "", s, []string{"one", "two"}, 20), []step{
		{reset, api.OK, 2, 0, nil, 0, ""},
		{adding("x"), api.OK, 3, 1, []string{"x"}, 0, framesOf("x")},
	})
	s = diskOf("LAR")
	steps(t, "nothing whole", s, opened(t, "", s, nil, 3), []step{
		{cut, api.OK, 2, 0, nil, 0, ""},
		{adding("x"), api.OK, 3, 1, []string{"x"}, 0, framesOf("x")},
	})
}

// P15.3: where there is no room for a frame nothing changes; where there is just enough, it goes.
func TestRoom(t *testing.T) {
	t.Parallel()
	sync := (*journal.Journal).Sync
	s := samples.Must(store.New(39))
	steps(t, "no room", s, opened(t, "", s, nil, 0), []step{
		{adding(strings.Repeat("x", 24)), api.ErrStoFull, 0, 0, nil, 0, ""},
		{adding("12345"), api.OK, 1, 1, []string{"12345"}, 0, framesOf("12345")}, // 21 bytes, 18 are left
		{adding("123"), api.ErrStoFull, 1, 1, []string{"12345"}, 0, framesOf("12345")},
		{sync, api.OK, 2, 0, []string{"12345"}, 0, framesOf("12345")},
		{adding("12"), api.OK, 3, 1, []string{"12345", "12"}, 0, framesOf("12345", "12")},
		{adding(""), api.ErrStoFull, 3, 1, []string{"12345", "12"}, 0, framesOf("12345", "12")},
	})
	s = samples.Must(store.New(15))
	steps(t, "no room at all", s, opened(t, "", s, nil, 0), []step{
		{adding(""), api.ErrStoFull, 0, 0, nil, 0, ""},
	})
}

// P15.3: Cut and Reset need no room: a store that has more bytes than it may have does them.
func TestNoRoomNeeded(t *testing.T) {
	t.Parallel()
	s := diskOf(framesOf("one") + "torn")
	s.SetCapacity(0)
	steps(t, "above the capacity", s, opened(t, "", s, []string{"one"}, 4), []step{
		{(*journal.Journal).Cut, api.OK, 2, 0, []string{"one"}, 0, framesOf("one")},
		{adding("x"), api.ErrStoFull, 2, 0, []string{"one"}, 0, framesOf("one")},
		{(*journal.Journal).Reset, api.OK, 4, 0, nil, 0, ""},
	})
}

// P15.3: the store's own errors, where somebody else has changed the file.
func TestStoresErrors(t *testing.T) {
	t.Parallel()
	s := diskOf(framesOf("one", "two") + "torn")
	j := opened(t, "", s, []string{"one", "two"}, 4)
	s.Truncate(file, 20)
	if e := j.Cut(); e != api.ErrArg {
		t.Errorf("P15.3: Cut of a shorter file: %v", e)
	}
	holdTold(t, "P15.3: behind it", j, []string{"one", "two"}, 4)
	s.Remove(file)
	ahead := toldBy(s)
	if e := j.Cut(); e != api.ErrStoNone || toldBy(s) != ahead {
		t.Errorf("P15.3: Cut of no file: %v", e)
	}
	holdTold(t, "P15.3: behind it", j, []string{"one", "two"}, 4)
	if e := j.Reset(); e != api.OK || s.Pending() != 0 {
		t.Errorf("P15.3: Reset of no file: %v", e)
	}
	holdTold(t, "P15.3: behind it", j, nil, 0)
}

// P15.3: the power is gone: each call answers it, and what was known is still told.
func TestDead(t *testing.T) {
	t.Parallel()
	for _, torn := range []string{"", "torn"} {
		s := diskOf(framesOf("one", "two") + torn)
		j := opened(t, "", s, []string{"one", "two"}, len(torn))
		s.Fuse(0)
		s.Sync()
		ahead := toldBy(s)
		cut, add := api.OK, api.ErrStoDead
		if torn != "" {
			cut, add = api.ErrStoDead, api.ErrJrnTorn
		}
		for call, got := range map[string][2]api.Errno{
			"Cut":    {j.Cut(), cut},
			"Append": {j.Append([]byte("x")), add},
			"Sync":   {j.Sync(), api.ErrStoDead},
			"Reset":  {j.Reset(), api.ErrStoDead},
		} {
			if got[0] != got[1] {
				t.Errorf("P15.3: without power: %s: %v, want %v", call, got[0], got[1])
			}
		}
		if toldBy(s) != ahead {
			t.Errorf("P15.3: without power something is changed")
		}
		holdTold(t, "P15.3: without power", j, []string{"one", "two"}, len(torn))
	}
}

func TestNil(t *testing.T) {
	t.Parallel()
	var j *journal.Journal
	if j.Bodies() != nil || j.Torn() != 0 {
		t.Errorf("P15.3: a nil journal: %q, %d", j.Bodies(), j.Torn())
	}
	for call, e := range map[string]api.Errno{
		"Cut": j.Cut(), "Append": j.Append([]byte("x")), "Append nothing": j.Append(nil), "Append too much": j.Append(tooLong()), "Sync": j.Sync(), "Reset": j.Reset(),
	} {
		if e != api.ErrArg {
			t.Errorf("P15.3: a nil journal: %s: %v", call, e)
		}
	}
}

// tooLong is a body of one byte more than there may be. (Nobody reads it, so it takes no room.)
func tooLong() []byte { return make([]byte, api.MaxFrame+1) }

func TestTooLong(t *testing.T) {
	t.Parallel()
	body := tooLong()
	if frame, e := journal.Encode(body); frame != nil || e != api.ErrJrnLong {
		t.Errorf("P15.1: Encode: %d bytes, %v", len(frame), e)
	}
	for _, c := range []struct {
		why  string
		disk *store.Store
		e    api.Errno
	}{
		{"no file", samples.Must(store.New(99)), api.ErrJrnLong},
		{"no room", samples.Must(store.New(0)), api.ErrJrnLong},
		{"a file", diskOf(framesOf("one")), api.ErrJrnLong},
		{"torn", diskOf(framesOf("one") + "x"), api.ErrJrnTorn},
	} {
		j := samples.Must(journal.Open(c.disk, file))
		bodies, torn, ahead := texts(j.Bodies()), j.Torn(), toldBy(c.disk)
		if e := j.Append(body); e != c.e || toldBy(c.disk) != ahead {
			t.Errorf("P15.3: Append of too long a body: %s: %v, want %v", c.why, e, c.e)
		}
		c.disk.Fuse(0)
		c.disk.Sync()
		if e := j.Append(body); e != c.e {
			t.Errorf("P15.3: Append of too long a body: %s, no power: %v, want %v", c.why, e, c.e)
		}
		holdTold(t, "P15.3: too long a body: "+c.why, j, bodies, torn)
	}
}

// A journal that nobody opened has no store.
func TestZero(t *testing.T) {
	t.Parallel()
	var j journal.Journal
	holdTold(t, "zero", &j, nil, 0)
	if a, b, c, d := j.Append(nil), j.Sync(), j.Reset(), j.Cut(); a != api.ErrArg || b != api.ErrArg || c != api.ErrArg || d != api.OK {
		t.Errorf("P15.3: a zero journal: %v, %v, %v, %v", a, b, c, d)
	}
}

// P15.3: a fuse that lets the power go at each of the store's calls in a call, one behind the last one too.
func TestFuses(t *testing.T) {
	t.Parallel()
	one, two := framesOf("one", "two"), framesOf("one", "two", "three")
	for _, c := range []struct {
		why  string
		data string // "none": no file
		call func(*journal.Journal) api.Errno
		made []string // the file as it is seen behind so many of the store's calls
	}{
		{"Cut", one + "torn", (*journal.Journal).Cut, []string{one + "torn", one, one}},
		{"Cut of nothing", one, (*journal.Journal).Cut, []string{one}},
		{"Cut of all", "torn", (*journal.Journal).Cut, []string{"torn", "", ""}},
		{"Append", one, adding("three"), []string{one, two}},
		{"Append to no file", "none", adding("three"), []string{"", frameOf("three")}},
		{"Append to torn", "torn", adding("three"), []string{"torn"}},
		{"Sync", one, (*journal.Journal).Sync, []string{one, one}},
		{"Sync with torn", one + "torn", (*journal.Journal).Sync, []string{one + "torn", one + "torn"}},
		{"Reset", one, (*journal.Journal).Reset, []string{one, "", ""}},
		{"Reset with torn", one + "torn", (*journal.Journal).Reset, []string{one + "torn", "", ""}},
		{"Reset without a file", "none", (*journal.Journal).Reset, []string{"", ""}},
	} {
		for n := range len(c.made) + 1 {
			s := samples.Must(store.New(999))
			if c.data != "none" {
				s = diskOf(c.data)
			}
			j := samples.Must(journal.Open(s, file))
			bodies, torn := texts(j.Bodies()), j.Torn()
			s.Fuse(n)
			e := c.call(j)
			need := len(c.made) - 1
			if s.Dead() != (n < need) || (e == api.ErrStoDead) != (n < need) || s.Calls() != min(n, need) {
				t.Errorf("P15.3: %s: a fuse of %d: %v, %d calls", c.why, n, e, s.Calls())
			}
			seen := "none"
			for _, b := range s.Image() {
				seen = string(b.Data)
			}
			if want := c.made[min(n, need)]; seen != want && (seen != "none" || want != "") {
				t.Errorf("P15.3: %s: a fuse of %d: seen is %q, want %q", c.why, n, seen, want)
			}
			if n < need {
				holdTold(t, "P15.3: the power went in "+c.why, j, bodies, torn)
			}
		}
	}
}

// P15.3: behind a Cut or a Reset in which the power went, the next one does it.
func TestAgain(t *testing.T) {
	t.Parallel()
	for fuse := range 2 {
		for kept := range 2 {
			s := diskOf(framesOf("one") + "torn")
			j := opened(t, "", s, []string{"one"}, 4)
			s.Fuse(fuse)
			j.Cut()
			s.Crash(api.Choice{Kept: []int{kept}})
			if e := j.Cut(); e != api.OK || contents(s) != framesOf("one") || s.Pending() != 0 {
				t.Errorf("P15.3: Cut again: %v, %q", e, contents(s))
			}
			holdTold(t, "P15.3: Cut again", j, []string{"one"}, 0)
			s.Fuse(fuse)
			j.Reset()
			s.Crash(api.Choice{Kept: []int{kept}})
			if e := j.Reset(); e != api.OK || len(s.Image()) != 0 || s.Pending() != 0 {
				t.Errorf("P15.3: Reset again: %v, %q", e, image(s.Image()))
			}
			holdTold(t, "P15.3: Reset again", j, nil, 0)
		}
	}
}

// P15.2: two journals of one file know what each of them has read; what one has done the other sees when it is opened anew.
func TestTwo(t *testing.T) {
	t.Parallel()
	s := diskOf(framesOf("one"))
	a, b := opened(t, "a", s, []string{"one"}, 0), opened(t, "b", s, []string{"one"}, 0)
	a.Append([]byte("two"))
	holdTold(t, "P15.3: a", a, []string{"one", "two"}, 0)
	holdTold(t, "P15.3: b", b, []string{"one"}, 0)
	opened(t, "P15.2: c", s, []string{"one", "two"}, 0)
	other := samples.Must(journal.Open(s, "other"))
	other.Append([]byte("apart"))
	holdTold(t, "P15.3: other", other, []string{"apart"}, 0)
	opened(t, "P15.2: d", s, []string{"one", "two"}, 0)
}
