package front_test

import (
	"slices"
	"testing"

	"larder/api"
	"larder/front"
	"larder/journal"
	"larder/samples"
	"larder/status"
	"larder/store"
)

// P23.7: Sweep, with what is held and what is essential.
func TestSweep(t *testing.T) {
	t.Parallel()
	const all = "aa 1 depends=bb a:1; bb 1 depends=cc b:1 auto; cc 1 c:1 auto; dd 1 depends=ee d:1 auto; ee 1 e:1 auto; ff 1 f:1 auto; gg 1 essential depends=hh auto; hh 1 auto"
	for _, c := range []struct {
		holds []string
		works int
		want  string
	}{
		{nil, 3, "aa=1/0 bb=1/1 cc=1/1 gg=1/1 hh=1/1"},
		{[]string{"dd"}, 1, "aa=1/0 bb=1/1 cc=1/1 dd=1/1 ee=1/1 gg=1/1 hh=1/1"},
		{[]string{"ee"}, 2, "aa=1/0 bb=1/1 cc=1/1 ee=1/1 gg=1/1 hh=1/1"},
		{[]string{"ff", "ff", "dd"}, 0, "aa=1/0 bb=1/1 cc=1/1 dd=1/1 ee=1/1 ff=1/1 gg=1/1 hh=1/1"},
		{[]string{"zz", "A", ""}, 3, "aa=1/0 bb=1/1 cc=1/1 gg=1/1 hh=1/1"},
	} {
		p, s := among(t, all)
		ahead := states(p.f.Query())
		p.asked(t, "ahead", []string{"aa", "ee"}, nil, c.holds)
		p.expect(t, "P23.7: Sweep", p.sweep(t, c.holds...), ok(c.works), c.want)
		if c.works > 0 {
			p.expect(t, "P23.8: Undo", p.undo(t, s.archives), ok(c.works), ahead)
		}
	}
}

// P23.8: Undo takes back what the last change did, marks among it, and then itself.
func TestUndo(t *testing.T) {
	t.Parallel()
	p := newPair(t)
	none := api.Outcome{Answer: api.AnswerRefused, Why: api.ErrHisNone}
	p.expect(t, "P23.8: Undo of nothing", p.undo(t, nil), none, "")
	all := stocked("aa 1 x:hi; aa 2 x:ho; bb 1 depends=aa y:hi; cc 1 z:")
	carried(t, p.apply(t, all.index, asks("install bb; remove aa(>=2)"), all.archives))
	p.expect(t, "ahead", api.Outcome{}, api.Outcome{}, "aa=1/1 bb=1/0")
	carried(t, p.apply(t, all.index, asks("upgrade; install cc; install aa"), all.archives))
	p.expect(t, "behind", api.Outcome{}, api.Outcome{}, "aa=2/0 bb=1/0 cc=1/0")
	samples.Must(0, p.mark(t, "bb", api.MarkAuto))
	p.expect(t, "P23.8: Undo without archives", p.undo(t, all.archives[1:]), api.Outcome{Answer: api.AnswerArchive, Who: api.Key{Name: "aa", Version: "1"}}, "aa=2/0 bb=1/1 cc=1/0")
	p.expect(t, "P23.8: Undo", p.undo(t, all.archives), ok(2), "aa=1/1 bb=1/0")
	p.expect(t, "P23.8: Undo again", p.undo(t, all.archives), ok(2), "aa=2/0 bb=1/1 cc=1/0")
	// Marks alone are a change, and part of one.
	carried(t, p.apply(t, all.index, asks("install bb"), nil))
	p.expect(t, "P23.8: Undo of marks", p.undo(t, nil), ok(1), "aa=2/0 bb=1/1 cc=1/0")
	p.expect(t, "P23.8: Undo of that", p.undo(t, nil), ok(1), "aa=2/0 bb=1/0 cc=1/0")
	samples.Must(0, p.mark(t, "bb", api.MarkAuto))
	p.expect(t, "P23.8: Undo of nothing all in all", p.undo(t, nil), none, "aa=2/0 bb=1/1 cc=1/0")
}

// P23.8: marks that the state ahead had otherwise are turned, whichever way.
func TestUndoTurnsMarks(t *testing.T) {
	t.Parallel()
	p, s := among(t, "aa 1 auto; bb 1; cc 1 auto")
	samples.Must(0, p.mark(t, "aa", api.MarkManual))
	carried(t, p.apply(t, stocked("dd 1").index, asks("install dd"), stocked("dd 1").archives))
	for _, m := range []struct {
		name string
		mark int
	}{{"aa", api.MarkAuto}, {"bb", api.MarkAuto}, {"cc", api.MarkManual}} {
		samples.Must(0, p.mark(t, m.name, m.mark))
	}
	p.expect(t, "P23.8: Undo", p.undo(t, s.archives), ok(1), "aa=1/0 bb=1/0 cc=1/1")
	p.expect(t, "P23.8: Undo again", p.undo(t, stocked("dd 1").archives), ok(1), "aa=1/1 bb=1/1 cc=1/0 dd=1/0")
}

// P23.3: a database that no program makes: what was held ahead is not whole, or what order refuses.
func TestOddDatabases(t *testing.T) {
	t.Parallel()
	aa, bb := stocked("aa 1 loose").held, stocked("bb 1 depends=zz loose").held
	at := func(s api.State) pair {
		body := samples.Must(status.Encode(s))
		return pairOf(t, []api.Blob{{Name: "d/status", Data: samples.Must(journal.Encode(body))}}, room)
	}
	p := at(api.State{Seq: 3, Group: 3, Held: aa, Before: bb})
	p.expect(t, "P23.8: Undo to a set that is not whole", p.undo(t, nil), api.Outcome{Answer: api.AnswerRefused, Why: api.ErrOrdTarget}, "aa=1/0")
	knot := stocked("aa 1 depends=bb loose; bb 1 pre=aa loose").held
	p = at(api.State{Seq: 3, Group: 3, Before: knot})
	p.expect(t, "P23.8: Undo to a knot", p.undo(t, nil), api.Outcome{Answer: api.AnswerCycle}, "")
	p = at(api.State{Seq: 3, Held: aa, Before: bb})
	p.expect(t, "P23.8: Undo of no change", p.undo(t, nil), api.Outcome{Answer: api.AnswerRefused, Why: api.ErrHisNone}, "aa=1/0")
	p.expect(t, "P23.5: Apply", p.apply(t, nil, asks("remove aa"), nil), ok(1), "")
	d := samples.Disk(map[string]string{"d/status": string(samples.Must(journal.Encode(samples.Must(status.Encode(api.State{Seq: 3, Group: 3, Held: bb})))))}, room)
	if f, e := front.Open(d); f != nil || e != api.ErrExeWork {
		t.Errorf("P23.1: Open of a set that is not whole = %v, %d", f != nil, e)
	}
}

// P23.9: Mark.
func TestMark(t *testing.T) {
	t.Parallel()
	p, _ := among(t, "aa 1 provides=mail; bb 1 auto; cc 1")
	seq := p.f.Seq()
	for _, c := range []struct {
		name  string
		mark  int
		want  api.Errno
		state string
	}{
		{"zz", 0, api.ErrFrontName, "aa=1/0 bb=1/1 cc=1/0"},
		{"zz", 7, api.ErrFrontName, "aa=1/0 bb=1/1 cc=1/0"},
		{"mail", 1, api.ErrFrontName, "aa=1/0 bb=1/1 cc=1/0"},
		{"", 0, api.ErrFrontName, "aa=1/0 bb=1/1 cc=1/0"},
		{"A b", 0, api.ErrFrontName, "aa=1/0 bb=1/1 cc=1/0"},
		{"a", 1, api.ErrFrontName, "aa=1/0 bb=1/1 cc=1/0"},
		{"aa", 2, api.ErrArg, "aa=1/0 bb=1/1 cc=1/0"},
		{"aa", -1, api.ErrArg, "aa=1/0 bb=1/1 cc=1/0"},
		{"aa", 0, api.OK, "aa=1/0 bb=1/1 cc=1/0"},
		{"bb", 1, api.OK, "aa=1/0 bb=1/1 cc=1/0"},
		{"aa", 1, api.OK, "aa=1/1 bb=1/1 cc=1/0"},
		{"bb", 0, api.OK, "aa=1/1 bb=1/0 cc=1/0"},
		{"cc", 1, api.OK, "aa=1/1 bb=1/0 cc=1/1"},
	} {
		ahead, was := samples.Told(p.d), states(p.f.Query())
		if e := p.mark(t, c.name, c.mark); e != c.want {
			t.Errorf("P23.9: Mark of %q with %d = %d, want %d", c.name, c.mark, e, c.want)
		}
		if got := states(p.f.Query()); got != c.state || (samples.Told(p.d) == ahead) != (got == was) {
			t.Errorf("P23.9: Mark of %q with %d: %q", c.name, c.mark, got)
		}
		p.whole(t, "a mark")
	}
	for _, e := range p.f.History() {
		if e.Seq > seq && e.Group != p.f.History()[0].Group {
			t.Errorf("P23.9: %+v is not of the last change", e)
		}
	}
	if p.f.Seq() != seq+3 {
		t.Errorf("P23.9: %d commits", p.f.Seq()-seq)
	}
}

// P23.10: Repair, with archives, without, with some of them, with nothing to mend.
func TestRepair(t *testing.T) {
	t.Parallel()
	p, s := among(t, "aa 1 x:hi y:ho; bb 1 z:zz")
	repair := func(what string, archives []api.Blob, want string) {
		t.Helper()
		ahead := samples.Told(p.d)
		left, e := p.repair(t, archives)
		if e != api.OK || told(left) != told(wrongs(want)) {
			t.Errorf("P23.10: %s: Repair = %v, %d, want %q", what, left, e, want)
		}
		if len(archives) == 0 && samples.Told(p.d) != ahead {
			t.Errorf("P23.10: %s: Repair changes the store", what)
		}
		p.asked(t, what, []string{"aa"}, []string{"x", "y", "z", "n"}, nil)
	}
	group := p.f.History()[0].Group
	repair("nothing is wrong", s.archives, "")
	p.both(func(d *store.Store) {
		d.Write("t/x", []byte("ha"))
		d.Remove("t/y")
		d.Write("t/z", []byte("long"))
		d.Write("t/n", nil)
		d.Write("d/other", nil)
	})
	const strays = "; 4 n; 6 d/other"
	repair("without archives", nil, "3 x aa=1; 1 y aa=1; 2 z bb=1"+strays)
	repair("with wrong ones", []api.Blob{{Name: "aa_1.deb", Data: s.archives[1].Data}, s.archives[0]}, "3 x aa=1; 1 y aa=1; 2 z bb=1"+strays)
	repair("with one", s.archives[1:], "3 x aa=1; 1 y aa=1"+strays)
	repair("with all", s.archives, strays[2:])
	repair("with all again", s.archives, strays[2:])
	p.both(func(d *store.Store) {
		d.Remove("t/n")
		d.Remove("d/other")
	})
	p.whole(t, "behind all repairs")
	for _, e := range p.f.History() {
		if e.Group != group {
			t.Errorf("P23.10: %+v is not of the last change", e)
		}
	}
	p.expect(t, "P23.10: Undo goes back behind it", p.undo(t, nil), ok(2), "")
}

// wrongs reads what is wrong as `3 x aa=1; 4 n`: the kind, the path, whose it is.
func wrongs(text string) []api.Wrong {
	var list []api.Wrong
	for _, part := range samples.Parts(text) {
		w := api.Wrong{Kind: int(part[0] - '0')}
		path, who, owned := part[2:], "", false
		if i := slices.Index([]byte(path), ' '); i >= 0 {
			path, who, owned = path[:i], path[i+1:], true
		}
		w.Path = path
		if owned {
			w.Who = samples.Keys(who)[0]
		}
		list = append(list, w)
	}
	return list
}

// P23.11: each call that asks, over a store that lives and one that is dead.
func TestAsking(t *testing.T) {
	t.Parallel()
	p, s := among(t, "aa 1 depends=bb usr/y:ho x:hi; bb 1 z:zz auto; cc 1 auto")
	names, paths := []string{"aa", "bb", "cc", "zz", ""}, []string{"x", "usr/y", "usr", "z", "q", "", "/x", "x/", "../d/status", "a//b", "n", "odd name", "\x7f", "/odd", "x/../z"}
	p.both(func(d *store.Store) {
		d.Write("t/q", []byte("somebody's"))
		d.Write("t//odd", []byte("no path"))
		d.Write("t/x/../z", nil)
		d.Write("t/usr/y", []byte("other"))
		d.Remove("t/z")
		d.Write("n/9.9", nil)
	})
	ask := func(what string) {
		t.Helper()
		p.asked(t, what, names, paths, []string{"cc"})
		p.asked(t, what, names, paths, nil)
		for _, r := range []string{"install aa; remove bb", "install zz", "install aa; remove aa", "install aa", "install aa; remove bb; budget 1", "hold A"} {
			for _, text := range []string{string(s.index), "", "junk"} {
				p.blamed(t, []byte(text), asks(r))
			}
			p.plan(t, s.index, asks(r))
		}
	}
	ask("alive")
	if got := p.f.Paths(); !slices.Equal(got, []string{"q", "usr/y", "x"}) {
		t.Errorf("P23.11: Paths = %q", got)
	}
	if data, e := p.f.Read("usr/y"); e != api.OK || string(data) != "other" {
		t.Errorf("P23.11: Read = %q, %d", data, e)
	}
	for _, path := range paths[4:] {
		if data, e := p.f.Read(path); path != "q" && (data != nil || e != api.ErrFrontPath) {
			t.Errorf("P23.11: Read of %q = %q, %d", path, data, e)
		}
	}
	if rules, verdict, e := p.f.Blame(s.index, asks("install aa; remove bb")); len(rules) == 0 || verdict != api.Unsat || e != api.OK {
		t.Errorf("P23.11: Blame = %v, %d, %d", rules, verdict, e)
	}
	held, seq := states(p.f.Query()), p.f.Seq()
	p.fuse(0)
	p.both(func(d *store.Store) { d.Sync() })
	ask("dead")
	if states(p.f.Query()) != held || p.f.Seq() != seq || len(p.f.History()) != seq || p.f.Paths() != nil {
		t.Errorf("P23.11: of a dead store: %q, %d, %q", states(p.f.Query()), p.f.Seq(), p.f.Paths())
	}
	for _, path := range paths {
		if data, e := p.f.Read(path); data != nil || e != api.ErrStoDead {
			t.Errorf("P23.11: Read of %q of a dead store = %q, %d", path, data, e)
		}
	}
	if wrong, e := p.f.Audit(); wrong != nil || e != api.ErrStoDead {
		t.Errorf("P23.11: Audit of a dead store = %v, %d", wrong, e)
	}
}

// P23.5 to P23.10: over a store without power each call that would change something says so, whatever else it is handed.
func TestDead(t *testing.T) {
	t.Parallel()
	power := api.Outcome{Answer: api.AnswerPower}
	hold := func(what string, p pair, s shelf, plans int) {
		t.Helper()
		for _, r := range []string{"install aa", "remove aa", "install aa; remove aa", "install zz", ""} {
			for _, text := range []string{string(s.index), "junk"} {
				if o := p.apply(t, []byte(text), asks(r), s.archives); o != power {
					t.Errorf("P23.5: %s: Apply = %+v", what, o)
				}
			}
		}
		if o := p.sweep(t); o != power {
			t.Errorf("P23.7: %s: Sweep = %+v", what, o)
		}
		if o := p.undo(t, s.archives); o != power {
			t.Errorf("P23.8: %s: Undo = %+v", what, o)
		}
		for _, name := range []string{"aa", "zz", ""} {
			for mark := -1; mark <= 2; mark++ {
				if e := p.mark(t, name, mark); e != api.ErrStoDead {
					t.Errorf("P23.9: %s: Mark of %q with %d = %d", what, name, mark, e)
				}
			}
		}
		if left, e := p.repair(t, s.archives); left != nil || e != api.ErrStoDead {
			t.Errorf("P23.10: %s: Repair = %v, %d", what, left, e)
		}
		if batches, o := p.plan(t, s.index, asks("remove aa")); o != (api.Outcome{Answer: api.AnswerOk, Planned: plans}) || len(batches) != plans {
			t.Errorf("P23.6: %s: Plan = %v, %+v", what, batches, o)
		}
		if batches, o := p.plan(t, []byte("junk"), asks("remove aa")); o.Answer != api.AnswerMalformed || batches != nil {
			t.Errorf("P23.6: %s: Plan = %v, %+v", what, batches, o)
		}
	}
	p, s := among(t, "aa 1 x:hi; bb 1 auto")
	p.fuse(0)
	p.both(func(d *store.Store) { d.Sync() })
	hold("a dead store", p, s, 1)
	// The power is on again, and nobody has opened the store.
	for what, fail := range map[string]func(p pair){
		"Apply":  func(p pair) { p.apply(t, s.index, asks("remove bb"), nil) },
		"Sweep":  func(p pair) { p.sweep(t) },
		"Undo":   func(p pair) { p.undo(t, nil) },
		"Mark":   func(p pair) { p.mark(t, "aa", api.MarkAuto) },
		"Repair": func(p pair) { p.repair(t, s.archives) },
	} {
		p, _ := among(t, "aa 1 x:hi; bb 1 auto")
		p.both(func(d *store.Store) { d.Remove("t/x") })
		p.fuse(1)
		fail(p)
		if !p.d.Dead() {
			t.Errorf("%s: the power is on", what)
		}
		p.both(func(d *store.Store) { d.Crash(api.Choice{}) })
		hold("an installer over which the power failed in "+what, p, s, 1)
		p.asked(t, what, []string{"aa", "bb"}, []string{"x"}, nil)
		q, e := opened(t, "and then", p.d, p.m.d)
		if e != api.OK || states(q.f.Query()) != "aa=1/0 bb=1/1" {
			t.Errorf("P23.1: behind %s: Open %d, %q", what, e, states(q.f.Query()))
		}
	}
	// A store that was dead and is on again, while no call was made, goes on.
	p, _ = among(t, "aa 1 x:hi")
	p.fuse(0)
	p.both(func(d *store.Store) { d.Sync() })
	p.both(func(d *store.Store) { d.Crash(api.Choice{}) })
	p.expect(t, "P23.5: behind a crash outside of all calls", p.apply(t, nil, asks("remove aa"), nil), ok(1), "")
}
