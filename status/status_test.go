package status_test

import (
	"slices"
	"strings"
	"testing"

	"larder/api"
	"larder/samples"
	"larder/status"
)

// holdState holds what is answered of a state by itself: whether it may be, its body, and there and back.
func holdState(t *testing.T, what string, s api.State, want api.Errno) {
	t.Helper()
	if e := status.Check(s); e != want {
		t.Errorf("P16.1: %q: Check = %d, want %d", what, e, want)
	}
	body, e := status.Encode(s)
	if e != want || e != api.OK && body != nil {
		t.Fatalf("P16.1: %q: Encode = %q, %d, want %d", what, body, e, want)
	}
	if e != api.OK {
		return
	}
	if string(body) != stateBytes(s) {
		t.Errorf("P16.1: %q: Encode = %q, want %q", what, body, stateBytes(s))
	}
	back, e := status.Decode(body)
	if e != api.OK || told(back) != told(s) || !status.Same(back, s) {
		t.Errorf("P16.5: %q: Decode = %q, %d, want %q", what, told(back), e, told(s))
	}
}

// holdCommit does that of a commit.
func holdCommit(t *testing.T, what string, c api.Commit, want api.Errno) {
	t.Helper()
	if e := status.CheckCommit(c); e != want {
		t.Errorf("P16.1: %q: CheckCommit = %d, want %d", what, e, want)
	}
	body, e := status.EncodeCommit(c)
	if e != want || e != api.OK && body != nil {
		t.Fatalf("P16.1: %q: EncodeCommit = %q, %d, want %d", what, body, e, want)
	}
	if e != api.OK {
		return
	}
	if string(body) != commitBytes(c) {
		t.Errorf("P16.1: %q: EncodeCommit = %q, want %q", what, body, commitBytes(c))
	}
	back, e := status.DecodeCommit(body)
	if e != api.OK || told(back) != told(c) {
		t.Errorf("P16.5: %q: DecodeCommit = %q, %d, want %q", what, told(back), e, told(c))
	}
}

// holdApply holds Fits and Apply against an answer.
func holdApply(t *testing.T, what string, s api.State, c api.Commit, want api.State, e api.Errno) {
	t.Helper()
	if got := status.Fits(s, c); got != e {
		t.Errorf("P16.2: %q: Fits = %d, want %d", what, got, e)
	}
	if got, f := status.Apply(s, c); f != e || told(got) != told(want) {
		t.Errorf("P16.2: %q: Apply = %q, %d, want %q, %d", what, told(got), f, told(want), e)
	}
}

// P16.1: the chapter's example 1.
func TestNothing(t *testing.T) {
	t.Parallel()
	body, e := status.Encode(api.State{})
	if string(body) != "\x02"+strings.Repeat("\x00", 28) || len(body) != 29 || e != api.OK {
		t.Errorf("P16.1: Encode = %q, %d", body, e)
	}
	holdState(t, "nothing", api.State{}, api.OK)
	holdCommit(t, "nothing", api.Commit{}, api.ErrStaCommit)
	holdCommit(t, "a commit of nothing", api.Commit{Seq: 1, Group: 1}, api.OK)
}

// P16.1: each part of a body stands where the chapter tells it.
func TestBodies(t *testing.T) {
	t.Parallel()
	in := heldOf("aa 1; bb 1:2-3 files=x auto")
	c := api.Commit{Seq: 0x010203040506, Group: 0x0102, Out: []string{"cc", "dd"}, In: in, Marks: []string{"ee"}, Steps: []api.Step{{Kind: 1, From: "n/1.0", To: "t/x"}, {Kind: 255, To: "\x00\xff"}, {}}}
	want := "\x01" + "\x06\x05\x04\x03\x02\x01\x00\x00" + "\x02\x01\x00\x00\x00\x00\x00\x00" +
		"\x02\x00\x00\x00" + "\x02\x00\x00\x00cc" + "\x02\x00\x00\x00dd" +
		"\x02\x00\x00\x00" + "\x00\x17\x00\x00\x00Package: aa\nVersion: 1\n" +
		"\x01\x68\x00\x00\x00Package: bb\nVersion: 1:2-3\nFiles:\n " + strings.Repeat("0", 64) + " 0 x\n" +
		"\x01\x00\x00\x00" + "\x02\x00\x00\x00ee" +
		"\x03\x00\x00\x00" + "\x01\x05\x00\x00\x00n/1.0\x03\x00\x00\x00t/x" + "\xff\x00\x00\x00\x00\x02\x00\x00\x00\x00\xff" + "\x00\x00\x00\x00\x00\x00\x00\x00\x00"
	if body, e := status.EncodeCommit(c); string(body) != want || e != api.OK {
		t.Errorf("P16.1: EncodeCommit = %q, %d, want %q", body, e, want)
	}
	holdCommit(t, "a commit", c, api.OK)
	s := api.State{Seq: 5, Group: 4, Held: in[:1], Before: in[1:], Past: []api.Entry{{Seq: 4, Group: 3}, {Seq: 5, Group: 4, Out: samples.Keys("bb=1:2-3"), In: samples.Keys("aa=1")}}}
	want = "\x02" + "\x05\x00\x00\x00\x00\x00\x00\x00" + "\x04\x00\x00\x00\x00\x00\x00\x00" +
		"\x01\x00\x00\x00" + packageBytes(in[0]) + "\x01\x00\x00\x00" + packageBytes(in[1]) +
		"\x02\x00\x00\x00" + "\x04\x00\x00\x00\x00\x00\x00\x00" + "\x03\x00\x00\x00\x00\x00\x00\x00" + "\x00\x00\x00\x00" + "\x00\x00\x00\x00" +
		"\x05\x00\x00\x00\x00\x00\x00\x00" + "\x04\x00\x00\x00\x00\x00\x00\x00" + "\x01\x00\x00\x00\x02\x00\x00\x00bb\x05\x00\x00\x001:2-3" + "\x01\x00\x00\x00\x02\x00\x00\x00aa\x01\x00\x00\x001"
	if body, e := status.Encode(s); string(body) != want || e != api.OK {
		t.Errorf("P16.1: Encode = %q, %d, want %q", body, e, want)
	}
	holdState(t, "a state", s, api.OK)
	full := api.Held{Package: samples.Full("aa", "1"), Mark: api.MarkAuto}
	holdState(t, "a full package", api.State{Held: []api.Held{full}, Before: []api.Held{full}}, api.OK)
	holdCommit(t, "a full package", api.Commit{Seq: 1, Group: 1, In: []api.Held{full}}, api.OK)
}

// P16.1: the numbers of a state and of its entries.
func TestStateNumbers(t *testing.T) {
	t.Parallel()
	for _, c := range []struct {
		seq, group int
		want       api.Errno
	}{
		{0, 0, api.OK}, {1, 0, api.OK}, {1, 1, api.OK}, {5, 5, api.OK}, {5, 6, api.ErrStaState}, {5, -1, api.ErrStaState}, {0, 1, api.ErrStaState}, {-1, 0, api.ErrStaState}, {-1, -1, api.ErrStaState},
		{api.MaxSeq, 0, api.OK}, {api.MaxSeq, api.MaxSeq, api.OK}, {api.MaxSeq, api.MaxSeq + 1, api.ErrStaState}, {api.MaxSeq + 1, 0, api.ErrStaState}, {api.MaxSeq + 1, api.MaxSeq + 1, api.ErrStaState}, {-1 << 63, 0, api.ErrStaState}, {1<<63 - 1, 0, api.ErrStaState},
	} {
		holdState(t, told(c), api.State{Seq: c.seq, Group: c.group}, c.want)
	}
	entries := func(numbers ...int) []api.Entry {
		var list []api.Entry
		for i := 0; i < len(numbers); i += 2 {
			list = append(list, api.Entry{Seq: numbers[i], Group: numbers[i+1]})
		}
		return list
	}
	for _, c := range []struct {
		seq  int
		past []api.Entry
		want api.Errno
	}{
		{1, entries(1, 1), api.OK}, {3, entries(3, 1), api.OK}, {3, entries(2, 1, 3, 1), api.OK}, {3, entries(1, 1, 2, 2, 3, 3), api.OK}, {3, entries(1, 1, 2, 1, 3, 2), api.OK},
		{1, entries(1, 0), api.ErrStaState}, {1, entries(1, -1), api.ErrStaState}, {1, entries(1, 2), api.ErrStaState}, {3, entries(2, 3, 3, 3), api.ErrStaState},
		{3, entries(2, 1), api.ErrStaState}, {3, entries(4, 1), api.ErrStaState}, {3, entries(1, 1, 3, 3), api.ErrStaState}, {3, entries(3, 3, 3, 3), api.ErrStaState}, {3, entries(3, 2, 2, 2), api.ErrStaState}, {3, entries(2, 2, 3, 1), api.ErrStaState}, {4, entries(2, 1, 3, 3, 4, 2), api.ErrStaState},
		{0, entries(0, 0), api.ErrStaState}, {0, entries(0, 1), api.ErrStaState}, {1, entries(0, 0, 1, 1), api.ErrStaState}, {1, entries(0, 1, 1, 1), api.ErrStaState}, {2, entries(2, 1, 3, 1), api.ErrStaState}, {api.MaxSeq, entries(api.MaxSeq, api.MaxSeq), api.OK}, {api.MaxSeq, entries(api.MaxSeq, api.MaxSeq+1), api.ErrStaState},
	} {
		holdState(t, told(c), api.State{Seq: c.seq, Past: c.past}, c.want)
	}
}

// P16.1: packages that may be held, now and before.
func TestStateHeld(t *testing.T) {
	t.Parallel()
	odd := func(change func(h *api.Held)) []api.Held {
		list := heldOf("aa 1 files=x; bb 1 files=y; cc 1 files=z auto")
		change(&list[1])
		return list
	}
	for _, c := range []struct {
		held []api.Held
		want api.Errno
	}{
		{odd(func(h *api.Held) {}), api.OK}, {odd(func(h *api.Held) { h.Mark = 1 }), api.OK}, {odd(func(h *api.Held) { h.Mark = 2 }), api.ErrStaState}, {odd(func(h *api.Held) { h.Mark = -1 }), api.ErrStaState}, {odd(func(h *api.Held) { h.Mark = 256 }), api.ErrStaState},
		{odd(func(h *api.Held) { h.Name = "aa" }), api.ErrStaState}, {odd(func(h *api.Held) { h.Name = "cc" }), api.ErrStaState}, {odd(func(h *api.Held) { h.Name = "dd" }), api.ErrStaState}, {odd(func(h *api.Held) { h.Name = "b" }), api.ErrStaState}, {odd(func(h *api.Held) { h.Name = "" }), api.ErrStaState}, {odd(func(h *api.Held) { h.Name = "b+" }), api.OK},
		{odd(func(h *api.Held) { h.Version = "" }), api.ErrStaState}, {odd(func(h *api.Held) { h.Version = "x" }), api.ErrStaState}, {odd(func(h *api.Held) { h.Depends = []api.Clause{{}} }), api.ErrStaState}, {odd(func(h *api.Held) { h.Size = 1 }), api.ErrStaState}, {odd(func(h *api.Held) { h.Summary = " " }), api.ErrStaState},
		{odd(func(h *api.Held) { h.Files[0].Path = "z" }), api.ErrStaState}, {odd(func(h *api.Held) { h.Files[0].Path = "x" }), api.ErrStaState}, {odd(func(h *api.Held) { h.Files[0].Path = "x/y" }), api.OK}, {odd(func(h *api.Held) { h.Files[0].Path = "" }), api.ErrStaState}, {odd(func(h *api.Held) { h.Files = append(h.Files, h.Files[0]) }), api.ErrStaState}, {odd(func(h *api.Held) { h.Files = nil }), api.OK},
	} {
		holdState(t, "Held: "+told(c.held), api.State{Held: c.held}, c.want)
		holdState(t, "Before: "+told(c.held), api.State{Before: c.held}, c.want)
		e := c.want
		if e != api.OK && onePathTwice(c.held) && heldMayBe(c.held) { // that only Fits refuses
			e = api.OK
		} else if e != api.OK {
			e = api.ErrStaCommit
		}
		holdCommit(t, "In: "+told(c.held), api.Commit{Seq: 7, Group: 7, In: c.held}, e)
	}
	both := heldOf("aa 1 files=x")
	holdState(t, "a path in Held and in Before", api.State{Held: both, Before: heldOf("bb 1 files=x")}, api.OK)
	holdState(t, "another version before", api.State{Held: both, Before: heldOf("aa 2 files=x")}, api.OK)
}

// P16.1: the keys of entries, and whether these can be taken back.
func TestStatePast(t *testing.T) {
	t.Parallel()
	held := heldOf("aa 1; bb 2")
	for _, c := range []struct {
		out, in string // of entries, with commas between
		want    api.Errno
	}{
		{"", "aa=1", api.OK}, {"", "aa=1 bb=2", api.OK}, {"", "bb=2 aa=1", api.ErrStaState}, {"", "aa=1 aa=1", api.ErrStaState}, {"", "aa=2", api.ErrStaState}, {"", "cc=1", api.ErrStaState}, {"", "aa=1.0", api.ErrStaState},
		{"cc=1", "", api.OK}, {"cc=1 dd=1", "", api.OK}, {"dd=1 cc=1", "", api.ErrStaState}, {"cc=1 cc=1", "", api.ErrStaState}, {"cc=1 cc=2", "", api.ErrStaState}, {"aa=1", "", api.ErrStaState}, {"aa=2", "", api.ErrStaState}, {"aa=2", "aa=1", api.OK}, {"aa=1", "aa=1", api.OK}, {"aa=2 bb=1", "aa=1", api.ErrStaState}, {"aa=2 bb=2", "aa=1 bb=2", api.OK},
		{"c=1", "", api.ErrStaState}, {"=1", "", api.ErrStaState}, {"cc=", "", api.ErrStaState}, {"cc=x", "", api.ErrStaState}, {"cc=1-", "", api.ErrStaState}, {"Cc=1", "", api.ErrStaState},
		{",", ",aa=1", api.OK}, {",", "aa=1,", api.OK}, {",", "aa=1,aa=1", api.ErrStaState}, {",aa=1", "aa=1,aa=1", api.OK}, {",aa=2", "aa=2,aa=1", api.OK}, {",aa=2", "aa=1,aa=1", api.ErrStaState}, {"aa=1,", ",aa=1", api.OK}, {"aa=1,", ",", api.ErrStaState}, {"cc=1,cc=1", ",", api.ErrStaState}, {"cc=1,cc=1", "cc=1,", api.OK}, {"cc=2,cc=1", "cc=1,", api.OK}, {"cc=2,cc=1", "cc=2,", api.ErrStaState}, {"cc=1,cc=1", ",cc=1", api.ErrStaState},
		{",aa=0,bb=1 cc=1", "aa=0,aa=1 bb=1,bb=2", api.OK}, {",aa=0,bb=1 cc=1", "aa=0 cc=1,aa=1 bb=1,bb=2", api.OK}, {",aa=0,bb=1 cc=1", "aa=0 bb=1,aa=1,bb=2", api.OK}, {",aa=0 bb=3,bb=1 cc=1", "aa=0 bb=3,aa=1,bb=2", api.ErrStaState},
	} {
		out, in := strings.Split(c.out, ","), strings.Split(c.in, ",")
		n := max(len(out), len(in))
		s := api.State{Seq: 9, Held: held}
		for i := range n {
			entry := api.Entry{Seq: 9 - n + 1 + i, Group: 2}
			if i < len(out) {
				entry.Out = samples.Keys(out[i])
			}
			if i < len(in) {
				entry.In = samples.Keys(in[i])
			}
			s.Past = append(s.Past, entry)
		}
		holdState(t, told(c), s, c.want)
		if stateMayBe(s) != (c.want == api.OK) {
			t.Errorf("%q: the oracle says otherwise", told(c))
		}
	}
}

// P16.1, P16.2: as many entries as there may be, and one more.
func TestManyEntries(t *testing.T) {
	t.Parallel()
	past := func(n int) api.State {
		s := api.State{Seq: 1000, Group: 1000}
		for i := range n {
			s.Past = append(s.Past, api.Entry{Seq: 1000 - n + 1 + i, Group: 700 + i})
		}
		return s
	}
	for _, n := range []int{0, 1, 255, 256} {
		holdState(t, "entries", past(n), api.OK)
		s, e := status.Apply(past(n), api.Commit{Seq: 1001, Group: 1001})
		if len(s.Past) != min(n+1, api.MaxPast) || s.Past[0].Seq != max(1001-n, 746) || s.Past[len(s.Past)-1].Seq != 1001 || e != api.OK {
			t.Errorf("P16.2: of %d entries and one more %d are left, %d", n, len(s.Past), e)
		}
		holdState(t, "entries and one more", s, api.OK)
	}
	holdState(t, "257 entries", past(257), api.ErrStaState)
	holdState(t, "300 entries", past(300), api.ErrStaState)
	s, want := api.State{}, api.State{}
	for i := 1; i <= 300; i++ {
		c := commitOf(i, i, "", "aa "+string(rune('0'+i%10)), "")
		if i > 1 {
			c.Out = []string{"aa"}
		}
		want = stateBehind(s, c)
		holdApply(t, "one more", s, c, want, api.OK)
		s = want
	}
	if len(s.Past) != 256 || s.Past[0].Seq != 45 {
		t.Errorf("the oracle keeps %d entries from %d on", len(s.Past), s.Past[0].Seq)
	}
}

// P16.1: each thing by which a commit may not be.
func TestCommitParts(t *testing.T) {
	t.Parallel()
	names := func(text string) api.Commit { return api.Commit{Seq: 9, Group: 2, Out: strings.Fields(text)} }
	steps := func(list ...api.Step) api.Commit { return api.Commit{Seq: 9, Group: 2, Steps: list} }
	long := strings.Repeat("x", 258)
	for _, c := range []struct {
		c    api.Commit
		want api.Errno
	}{
		{api.Commit{Seq: 1, Group: 1}, api.OK}, {api.Commit{Seq: 0, Group: 0}, api.ErrStaCommit}, {api.Commit{Seq: 0, Group: 1}, api.ErrStaCommit}, {api.Commit{Seq: 1, Group: 0}, api.ErrStaCommit}, {api.Commit{Seq: 1, Group: 2}, api.ErrStaCommit}, {api.Commit{Seq: 5, Group: 3}, api.OK}, {api.Commit{Seq: -1, Group: -1}, api.ErrStaCommit}, {api.Commit{Seq: 5, Group: -1}, api.ErrStaCommit},
		{api.Commit{Seq: api.MaxSeq, Group: api.MaxSeq}, api.OK}, {api.Commit{Seq: api.MaxSeq, Group: 1}, api.OK}, {api.Commit{Seq: api.MaxSeq + 1, Group: 1}, api.ErrStaCommit}, {api.Commit{Seq: 1<<63 - 1, Group: 1}, api.ErrStaCommit}, {api.Commit{Seq: -1 << 63, Group: 1}, api.ErrStaCommit},
		{names("aa"), api.OK}, {names("aa bb"), api.OK}, {names("bb aa"), api.ErrStaCommit}, {names("aa aa"), api.ErrStaCommit}, {names("aa bb bb"), api.ErrStaCommit}, {names("a"), api.ErrStaCommit}, {names("aa b cc"), api.ErrStaCommit}, {names("Aa"), api.ErrStaCommit}, {names("-a"), api.ErrStaCommit}, {names(strings.Repeat("n", 128)), api.OK}, {names(strings.Repeat("n", 129)), api.ErrStaCommit}, {api.Commit{Seq: 9, Group: 2, Out: []string{""}}, api.ErrStaCommit},
		{commitOf(9, 2, "", "aa 1; bb 1", ""), api.OK}, {commitOf(9, 2, "", "bb 1; aa 1", ""), api.ErrStaCommit}, {commitOf(9, 2, "", "aa 1; aa 2", ""), api.ErrStaCommit}, {commitOf(9, 2, "aa", "aa 1", ""), api.OK}, {commitOf(9, 2, "aa", "", "aa"), api.OK}, {commitOf(9, 2, "", "aa 1", "aa"), api.OK},
		{steps(api.Step{}), api.OK}, {steps(api.Step{Kind: 255}), api.OK}, {steps(api.Step{Kind: 256}), api.ErrStaCommit}, {steps(api.Step{Kind: -1}), api.ErrStaCommit}, {steps(api.Step{Kind: 1 << 40}), api.ErrStaCommit},
		{steps(api.Step{From: long}), api.OK}, {steps(api.Step{To: long}), api.OK}, {steps(api.Step{From: long + "x"}), api.ErrStaCommit}, {steps(api.Step{To: long + "x"}), api.ErrStaCommit}, {steps(api.Step{From: "\x00 \xff", To: "a b"}), api.OK}, {steps(api.Step{}, api.Step{Kind: 256}), api.ErrStaCommit}, {steps(api.Step{Kind: 2}, api.Step{Kind: 2}), api.OK},
	} {
		holdCommit(t, told(c.c), c.c, c.want)
		c.c.Out, c.c.Marks = c.c.Marks, c.c.Out
		holdCommit(t, told(c.c), c.c, c.want)
	}
}

// P16.2: the chapter's examples 2 and 3.
func TestExamples(t *testing.T) {
	t.Parallel()
	aa := heldOf("aa 1")
	one, e := status.Apply(api.State{}, commitOf(1, 1, "", "aa 1", ""))
	want := api.State{Seq: 1, Group: 1, Held: aa, Past: []api.Entry{{Seq: 1, Group: 1, In: samples.Keys("aa=1")}}}
	if e != api.OK || told(one) != told(want) {
		t.Fatalf("P16.2: Apply = %q, %d, want %q", told(one), e, told(want))
	}
	holdApply(t, "Seq 3", one, commitOf(3, 3, "", "bb 1", ""), api.State{}, api.ErrStaFit)
	two := api.State{Seq: 2, Group: 2, Held: heldOf("aa 1; bb 1"), Before: aa, Past: append(slices.Clone(want.Past), api.Entry{Seq: 2, Group: 2, In: samples.Keys("bb=1")})}
	holdApply(t, "Group 2", one, commitOf(2, 2, "", "bb 1", ""), two, api.OK)
	same := two
	same.Group, same.Before, same.Past = 1, nil, append(slices.Clone(want.Past), api.Entry{Seq: 2, Group: 1, In: samples.Keys("bb=1")})
	holdApply(t, "Group 1", one, commitOf(2, 1, "", "bb 1", ""), same, api.OK)
	s, marks := one, ""
	for seq := 2; seq <= 4; seq++ {
		s, e = status.Apply(s, commitOf(seq, 1, "", "", "aa"))
		if e != api.OK || len(s.Held) != 1 || len(s.Past) != seq {
			t.Fatalf("P16.2: %q, %d", told(s), e)
		}
		marks += string(rune('0' + s.Held[0].Mark))
	}
	if marks != "101" {
		t.Errorf("P16.2: a mark that is turned thrice is %q", marks)
	}
}

// P16.2: each thing by which a commit does not fit, and which error comes first.
func TestFits(t *testing.T) {
	t.Parallel()
	s := api.State{Seq: 4, Group: 3, Held: heldOf("aa 1 files=x; bb 1 files=y auto"), Before: heldOf("zz 1"), Past: []api.Entry{{Seq: 4, Group: 3, In: samples.Keys("aa=1")}}}
	none, high, last, broken := s, s, s, s
	none.Group, none.Past = 0, nil
	high.Group = 2
	last.Seq, last.Past = api.MaxSeq, nil
	broken.Seq = -1
	bad := commitOf(5, 5, "b", "", "")
	for _, c := range []struct {
		what string
		s    api.State
		c    api.Commit
		e    api.Errno
	}{
		{"nothing", s, commitOf(5, 5, "", "", ""), api.OK}, {"the same Seq", s, commitOf(4, 4, "", "", ""), api.ErrStaFit}, {"Seq too great", s, commitOf(6, 6, "", "", ""), api.ErrStaFit}, {"the first Seq", s, commitOf(1, 1, "", "", ""), api.ErrStaFit},
		{"the state's Group", s, commitOf(5, 3, "", "", ""), api.OK}, {"another Group", s, commitOf(5, 4, "", "", ""), api.ErrStaFit}, {"a Group below", s, commitOf(5, 2, "", "", ""), api.ErrStaFit}, {"Group 0", none, commitOf(5, 0, "", "", ""), api.ErrStaCommit}, {"no Group yet", none, commitOf(5, 5, "", "", ""), api.OK}, {"no Group yet, another one", none, commitOf(5, 3, "", "", ""), api.ErrStaFit},
		{"a Group below the last entry's", high, commitOf(5, 2, "", "", ""), api.ErrStaFit}, {"its own Group behind that", high, commitOf(5, 5, "", "", ""), api.OK},
		{"Out", s, commitOf(5, 5, "aa", "", ""), api.OK}, {"Out of all", s, commitOf(5, 5, "aa bb", "", ""), api.OK}, {"Out of what is not held", s, commitOf(5, 5, "cc", "", ""), api.ErrStaFit}, {"Out of what is not held beside what is", s, commitOf(5, 5, "aa ab bb", "", ""), api.ErrStaFit}, {"Out of what was held before", s, commitOf(5, 5, "zz", "", ""), api.ErrStaFit},
		{"In", s, commitOf(5, 5, "", "cc 1 files=z", ""), api.OK}, {"In ahead of all", s, commitOf(5, 5, "", "a0 1; ab 1; cc 1 auto", ""), api.OK}, {"In of what is held", s, commitOf(5, 5, "", "aa 2", ""), api.ErrStaFit}, {"In of just what is held", s, commitOf(5, 5, "", "bb 1 files=y auto", ""), api.ErrStaFit}, {"In and Out", s, commitOf(5, 5, "aa", "aa 2 files=x", ""), api.OK}, {"In and Out of just what is held", s, commitOf(5, 3, "aa bb", "aa 1 files=x; bb 1 files=y auto", ""), api.OK}, {"In of another name than Out", s, commitOf(5, 5, "aa", "bb 1", ""), api.ErrStaFit},
		{"a path of what stays", s, commitOf(5, 5, "", "cc 1 files=w,y", ""), api.ErrStaFit}, {"a path of what goes", s, commitOf(5, 5, "bb", "cc 1 files=w,y", ""), api.OK}, {"a path of what goes and comes", s, commitOf(5, 5, "bb", "bb 2 files=y; cc 1 files=y", ""), api.ErrStaFit}, {"a path that changes hands", s, commitOf(5, 5, "aa bb", "aa 2 files=y; bb 2 files=x", ""), api.OK}, {"a path twice in In", s, commitOf(5, 5, "", "cc 1 files=z; dd 1 files=z", ""), api.ErrStaFit},
		{"Marks", s, commitOf(5, 5, "", "", "aa"), api.OK}, {"all Marks", s, commitOf(5, 3, "", "", "aa bb"), api.OK}, {"Marks of what is not held", s, commitOf(5, 5, "", "", "cc"), api.ErrStaFit}, {"Marks of what was held before", s, commitOf(5, 5, "", "", "aa zz"), api.ErrStaFit}, {"Marks of what goes", s, commitOf(5, 5, "aa", "", "aa"), api.ErrStaFit}, {"Marks of what comes", s, commitOf(5, 5, "", "cc 1", "cc"), api.ErrStaFit}, {"Marks of what goes and comes", s, commitOf(5, 5, "aa", "aa 1", "aa"), api.ErrStaFit}, {"Marks of what is held and comes", s, commitOf(5, 5, "", "aa 1", "aa"), api.ErrStaFit}, {"Marks beside others", s, commitOf(5, 5, "aa", "cc 1", "bb"), api.OK},
		{"the last Seq", last, commitOf(api.MaxSeq, 3, "", "", ""), api.ErrStaSeq}, {"the last Seq, a commit that does not fit", last, commitOf(5, 5, "cc", "", ""), api.ErrStaSeq}, {"the last Seq, a commit behind it", last, commitOf(api.MaxSeq+1, 3, "", "", ""), api.ErrStaCommit}, {"the last Seq, a commit that may not be", last, bad, api.ErrStaCommit},
		{"a state that may not be", broken, commitOf(5, 5, "", "", ""), api.ErrStaState}, {"neither may be", broken, bad, api.ErrStaState}, {"a commit that may not be", s, bad, api.ErrStaCommit}, {"a commit that may not be nor fits", s, commitOf(7, 5, "b", "", ""), api.ErrStaCommit}, {"lists that do not rise", s, commitOf(5, 5, "bb aa", "", ""), api.ErrStaCommit},
	} {
		want, e := applied(c.s, c.c)
		if e != c.e {
			t.Errorf("%q: the oracle says %d", c.what, e)
		}
		holdApply(t, c.what, c.s, c.c, want, c.e)
	}
	before := last
	before.Seq--
	next, e := status.Apply(before, commitOf(api.MaxSeq, api.MaxSeq, "", "", ""))
	if e != api.OK || next.Seq != api.MaxSeq {
		t.Errorf("P16.2: the last commit of all: %d, %d", next.Seq, e)
	}
}

// P16.5: what is the Same, and what is not.
func TestSame(t *testing.T) {
	t.Parallel()
	make := func() api.State {
		return api.State{Seq: 4, Group: 3, Held: heldOf("aa 1 files=x; bb 1"), Before: heldOf("cc 1; dd 1"), Past: []api.Entry{{Seq: 3, Group: 3, Out: samples.Keys("cc=1")}, {Seq: 4, Group: 3, Out: samples.Keys("dd=1"), In: samples.Keys("aa=1 bb=1")}}}
	}
	for i, change := range []func(s *api.State){
		func(s *api.State) { s.Seq++ }, func(s *api.State) { s.Group-- },
		func(s *api.State) { s.Held = s.Held[:1] }, func(s *api.State) { s.Held[1].Mark = 1 }, func(s *api.State) { s.Held[0].Files[0].Size = 1 }, func(s *api.State) { s.Held[0].Summary = "x" }, func(s *api.State) { slices.Reverse(s.Held) }, func(s *api.State) { s.Held = append(s.Held, s.Held[0]) },
		func(s *api.State) { s.Before = nil }, func(s *api.State) { s.Before[0].Mark = 1 }, func(s *api.State) { s.Before[1].Version = "1.0" }, func(s *api.State) { s.Held, s.Before = s.Before, s.Held },
		func(s *api.State) { s.Past = s.Past[1:] }, func(s *api.State) { s.Past[0].Seq = 2 }, func(s *api.State) { s.Past[1].Group = 4 }, func(s *api.State) { s.Past[0].Out[0].Version = "2" }, func(s *api.State) { s.Past[0].Out = nil }, func(s *api.State) { s.Past[1].In = s.Past[1].In[1:] }, func(s *api.State) { s.Past[1].In[0].Name = "ab" }, func(s *api.State) { s.Past[0].In = samples.Keys("aa=1") },
	} {
		s := make()
		change(&s)
		if status.Same(s, make()) || status.Same(make(), s) || !status.Same(s, s) {
			t.Errorf("Same: change %d is not told", i)
		}
	}
	if !status.Same(make(), make()) || !status.Same(api.State{}, api.State{Held: []api.Held{}, Before: []api.Held{}, Past: []api.Entry{}}) || !status.Same(api.State{Past: []api.Entry{{Out: []api.Key{}}}}, api.State{Past: []api.Entry{{In: []api.Key{}}}}) {
		t.Error("Same: what is the same is not")
	}
	odd := api.State{Seq: -1, Held: []api.Held{{Mark: 9}}}
	if !status.Same(odd, odd) || status.Same(odd, api.State{Seq: -1, Held: []api.Held{{Mark: 8}}}) {
		t.Error("Same: of states that may not be")
	}
}
