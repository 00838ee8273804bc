package front_test

import (
	"slices"
	"strings"
	"testing"

	"larder/api"
	"larder/samples"
	"larder/store"
)

// among tells a pair over which packages are installed that samples.AllMade reads, with their marks, and what belongs to them.
func among(t *testing.T, text string) (pair, shelf) {
	t.Helper()
	s := stocked(text)
	p := newPair(t)
	if len(s.held) > 0 {
		var r []string
		for _, h := range s.held {
			r = append(r, "install "+h.Name+"(="+h.Version+")")
		}
		carried(t, p.apply(t, s.index, asks(strings.Join(r, "; ")), s.archives))
	}
	for _, h := range s.held {
		if h.Mark == api.MarkAuto {
			samples.Must(0, p.mark(t, h.Name, api.MarkAuto))
		}
	}
	p.whole(t, text)
	return p, s
}

// expect holds an outcome and the state behind it.
func (p pair) expect(t *testing.T, what string, got, want api.Outcome, state string) {
	t.Helper()
	expect(t, what, p.f, got, want, state)
	p.whole(t, what)
}

// P23.2: what answers there are ahead of a plan, with their numbers, and which of them is first.
func TestTargets(t *testing.T) {
	t.Parallel()
	aa := stocked("aa 1 x:hi; bb 1 conflicts=aa")
	held := "aa=1/0 ee=1/0"
	p, _ := among(t, "aa 1 x:hi; ee 1 essential")
	one := string(aa.index)
	for _, c := range []struct {
		what, index, request string
		want                 api.Outcome
	}{
		{"junk", "junk", "install aa", api.Outcome{Answer: api.AnswerMalformed, Line: 1, Why: api.ErrStzName}},
		{"junk behind a package", one + "\njunk", "install aa", api.Outcome{Answer: api.AnswerMalformed, Line: strings.Count(one, "\n") + 2, Why: api.ErrStzName}},
		{"a package twice", one + "\n" + one, "install aa", api.Outcome{Answer: api.AnswerMalformed, Line: strings.Count(one, "\n") + 2, Why: api.ErrIdxTwice}},
		{"no version", "Package: aa\n", "install aa", api.Outcome{Answer: api.AnswerMalformed, Line: 1, Why: api.ErrCtlMissing}},
		{"an odd name", "Version: 1\nPackage: A\n", "install aa", api.Outcome{Answer: api.AnswerMalformed, Line: 2, Why: api.ErrCtlName}},
		{"too long", strings.Repeat("\n", api.MaxInput+1), "install aa", api.Outcome{Answer: api.AnswerMalformed, Why: api.ErrLong}},
		{"junk, and a wish that may not be", "junk", "install aa; remove aa", api.Outcome{Answer: api.AnswerMalformed, Line: 1, Why: api.ErrStzName}},
		{"no such package", one, "install cc", api.Outcome{Answer: api.AnswerUnsat, Why: api.ErrResUnsat}},
		{"a conflict", one, "install aa; install bb", api.Outcome{Answer: api.AnswerUnsat, Why: api.ErrResUnsat}},
		{"what is held is to go", one, "remove aa; hold aa", api.Outcome{Answer: api.AnswerUnsat, Why: api.ErrResUnsat}},
		{"no budget", one, "install bb; remove aa; budget 0", api.Outcome{Answer: api.AnswerBudget, Why: api.ErrResBudget}},
		{"a small budget", one, "install bb; remove aa; budget 2", api.Outcome{Answer: api.AnswerBudget, Why: api.ErrResBudget}},
		{"both", one, "install aa; remove aa", api.Outcome{Answer: api.AnswerRefused, Why: api.ErrResBoth}},
		{"an essential one", one, "remove ee", api.Outcome{Answer: api.AnswerRefused, Why: api.ErrResEssential}},
		{"a hold that is none", one, "hold A", api.Outcome{Answer: api.AnswerRefused, Why: api.ErrResName}},
		{"a budget that is none", one, "budget -1", api.Outcome{Answer: api.AnswerRefused, Why: api.ErrArg}},
		{"nothing", one, "", ok(0)},
		{"nothing, and no index", "", "", ok(0)},
		{"what is there", "", "install aa; hold aa", ok(0)},
		{"an upgrade to nothing", one, "upgrade", ok(0)},
	} {
		ahead := samples.Told(p.d)
		p.expect(t, c.what, p.apply(t, []byte(c.index), asks(c.request), aa.archives), c.want, held)
		if samples.Told(p.d) != ahead {
			t.Errorf("P0.4: %s: the store is changed", c.what)
		}
		want := c.want
		batches, o := p.plan(t, []byte(c.index), asks(c.request))
		if o != want || len(batches) > 0 {
			t.Errorf("P23.6: %s: Plan = %v, %+v", c.what, batches, o)
		}
	}
	odd := asks("install aa")
	odd.Wishes[0].Kind = 7
	p.expect(t, "an odd wish", p.apply(t, aa.index, odd, nil), api.Outcome{Answer: api.AnswerRefused, Why: api.ErrArg}, held)
	odd = asks("install aa")
	odd.Wishes[0].Atom = api.Atom{Name: "aa", Op: api.OpLess, Version: "x y"}
	p.expect(t, "an odd version", p.apply(t, aa.index, odd, nil), api.Outcome{Answer: api.AnswerRefused, Why: api.ErrResVersion}, held)
	odd = asks("install bb; remove aa")
	odd.Pins = []api.Pin{{Name: "aa", Op: 9}}
	p.expect(t, "an odd pin", p.apply(t, aa.index, odd, nil), api.Outcome{Answer: api.AnswerRefused, Why: api.ErrArg}, held)
	odd.Pins = []api.Pin{{Name: "bb", Priority: -1}}
	p.expect(t, "a pin", p.apply(t, aa.index, odd, aa.archives), ok(2), "bb=1/0 ee=1/0")
}

// P23.3: with which marks packages come, and which are turned.
func TestMarks(t *testing.T) {
	t.Parallel()
	all := stocked("aa 1; aa 2; aa 3 depends=bb; bb 1; bb 2; cc 1 provides=mail; dd 1 provides=mail; mail 1; ee 1 depends=cc")
	for _, c := range []struct {
		what, held, request, want string
		works                     int
	}{
		{"what is asked for", "", "install aa(=1)", "aa=1/0", 1},
		{"and what it needs", "", "install aa(=3)", "aa=3/0 bb=2/1", 2},
		{"what is needed and asked for", "", "install aa(=3); install bb(<<2)", "aa=3/0 bb=1/0", 2},
		{"a name is ahead of those who provide it", "mail 1 auto; cc 1 provides=mail auto", "install mail", "cc=1/1 mail=1/0", 1},
		{"and so, where both come", "", "install mail(=1); install ee; install mail", "cc=1/1 ee=1/0 mail=1/0", 3},
		{"the first of those who provide it", "", "install mail; remove mail", "", -1},
		{"the first of those who are there", "cc 1 provides=mail auto; dd 1 provides=mail auto", "install mail", "cc=1/0 dd=1/1", 1},
		{"one that is there, and another", "dd 1 provides=mail auto", "install mail; install cc", "cc=1/0 dd=1/1", 1},
		{"one that is there alone", "dd 1 provides=mail auto", "install mail", "dd=1/0", 1},
		{"one that was wanted already", "dd 1 provides=mail", "install mail", "dd=1/0", 0},
		{"another version keeps its mark", "aa 1 auto", "upgrade", "aa=3/1 bb=2/1", 2},
		{"and so, where it was wanted", "aa 1; bb 1", "upgrade", "aa=3/0 bb=2/0", 2},
		{"another version that is asked for", "aa 1 auto; bb 1 auto", "install aa(>=2)", "aa=3/0 bb=1/1", 1},
		{"one that stays is wanted, while another comes", "aa 1 auto", "install aa; install ee", "aa=1/0 cc=1/1 ee=1/0", 2},
		{"two that stay, and no batch", "aa 1 auto; bb 1 auto", "install bb; install aa", "aa=1/0 bb=1/0", 1},
		{"one that is held", "aa 1 auto", "install aa; hold aa", "aa=1/0", 1},
		{"one that is asked for twice", "aa 1 auto", "install aa; install aa(=1)", "aa=1/0", 1},
		{"marks are not taken away", "aa 1; bb 1", "install bb", "aa=1/0 bb=1/0", 0},
		{"a removal marks none of those who provide a name", "cc 1 provides=mail auto; mail 1", "remove mail", "cc=1/1", 1},
		{"a removal marks nothing", "aa 1 auto; bb 1 auto", "remove bb", "aa=1/1", 1},
	} {
		p, _ := among(t, c.held)
		if c.works < 0 {
			if o := p.apply(t, all.index, asks(c.request), all.archives); o.Answer != api.AnswerRefused {
				t.Errorf("P23.2: %s: %+v", c.what, o)
			}
			continue
		}
		_, o := p.plan(t, all.index, asks(c.request))
		if o != (api.Outcome{Answer: api.AnswerOk, Planned: c.works}) {
			t.Errorf("P23.6: %s: Plan = %+v", c.what, o)
		}
		p.expect(t, "P23.3: "+c.what, p.apply(t, all.index, asks(c.request), all.archives), ok(c.works), c.want)
	}
}

// P23.3: marks that are turned stand in the first work: where a later one finds no room, they are turned.
func TestMarksStandFirst(t *testing.T) {
	t.Parallel()
	all := stocked("bb 1 depends=cc x:hi; cc 1")
	p, _ := among(t, "aa 1 auto; dd 1 auto")
	r := asks("install dd; install bb; install aa")
	p.both(func(d *store.Store) { d.Fuse(7) })
	o := p.apply(t, all.index, r, all.archives)
	if o != (api.Outcome{Answer: api.AnswerPower, Done: 1, Planned: 2}) || states(p.f.Query()) != "aa=1/0 cc=1/1 dd=1/0" {
		t.Errorf("P23.3: %+v, %q", o, states(p.f.Query()))
	}
}

// P23.3: what is displaced comes again with its mark, or as what is asked for.
func TestDisplaced(t *testing.T) {
	t.Parallel()
	const old = "pp 1 depends=lib(=1) p:1; lib 1 l:1; qq 1 depends=lib q:qq auto; rr 1 depends=lib r:rr auto"
	new := stocked("pp 2 pre=lib(>=2) p:2; lib 2 l:2")
	p, _ := among(t, old)
	batches, o := p.plan(t, new.index, asks("install pp(>=2); install rr"))
	if len(batches) != 5 || keys(batches[0].Out) != "lib=1 pp=1 qq=1 rr=1" || o.Planned != 5 {
		t.Fatalf("Plan = %v, %+v", batches, o)
	}
	p.expect(t, "P23.4: with their bytes out of the tree", p.apply(t, new.index, asks("install pp(>=2); install rr"), new.archives), ok(5), "lib=2/0 pp=2/0 qq=1/1 rr=1/0")
	for _, e := range p.f.History()[len(p.f.History())-5:] {
		if e.Group != p.f.Seq()-4 {
			t.Errorf("P23.5: %+v is of another change", e)
		}
	}
	undone := "lib=1/0 pp=1/0 qq=1/1 rr=1/1"
	p.expect(t, "P23.8: Undo", p.undo(t, stocked(old[:strings.Index(old, "; qq")]).archives), ok(p.undoes(t)), undone)
}

// undoes tells how many works an Undo takes, of a pair behind it.
func (p pair) undoes(t *testing.T) int {
	t.Helper()
	n, last := 0, p.f.History()[len(p.f.History())-1]
	for _, e := range p.f.History() {
		if e.Group == last.Group {
			n++
		}
	}
	return n
}

// P23.4: the bytes of what is displaced: its archive is ahead of the tree, which has them only if all of them lie there.
func TestDisplacedBytes(t *testing.T) {
	t.Parallel()
	const old = "pp 1 depends=lib(=1); lib 1; qq 1 depends=lib q:qq q2:q2"
	new := stocked("pp 2 pre=lib(>=2) p:2; lib 2 l:2")
	gone := api.Outcome{Answer: api.AnswerArchive, Who: api.Key{Name: "qq", Version: "1"}}
	request := asks("install pp(>=2)")
	for _, c := range []struct {
		what     string
		spoil    func(d *store.Store)
		archive  bool
		want     api.Outcome
		repaired bool
	}{
		{"the tree", func(*store.Store) {}, false, ok(4), true},
		{"the archive", func(*store.Store) {}, true, ok(4), true},
		{"a file is missing", func(d *store.Store) { d.Remove("t/q2") }, false, gone, false},
		{"a file is missing, and the archive is there", func(d *store.Store) { d.Remove("t/q2") }, true, ok(4), true},
		{"a file has another size", func(d *store.Store) { d.Append("t/q", []byte("q")) }, false, gone, false},
		{"a file has another sum", func(d *store.Store) { d.Write("t/q", []byte("qw")) }, false, gone, false},
		{"a file has another sum, and the archive is there", func(d *store.Store) { d.Write("t/q", []byte("qw")) }, true, ok(4), true},
		{"another one's file is missing", func(d *store.Store) { d.Remove("t/p") }, false, ok(4), true},
	} {
		p, s := among(t, old)
		p.both(c.spoil)
		archives := new.archives
		if c.archive {
			archives = slices.Concat(archives, s.archives)
		}
		ahead := samples.Told(p.d)
		if got := p.apply(t, new.index, request, archives); got != c.want {
			t.Errorf("P23.4: %s: %+v, want %+v", c.what, got, c.want)
		}
		if c.repaired {
			p.whole(t, c.what)
		} else if samples.Told(p.d) != ahead {
			t.Errorf("P0.4: %s: the store is changed", c.what)
		}
	}
	// The archive that is handed in is another's: the tree has the bytes.
	p, s := among(t, old)
	wrong := []api.Blob{{Name: "qq_1.deb", Data: new.archives[0].Data}, s.archives[2]}
	p.expect(t, "P23.4: a wrong archive", p.apply(t, new.index, request, slices.Concat(new.archives, wrong)), ok(4), "lib=2/0 pp=2/0 qq=1/0")
}

// P23.4: what is in the state under another version is not displaced: the tree does not count.
func TestOtherVersions(t *testing.T) {
	t.Parallel()
	p, _ := among(t, "aa 1 x:hi")
	newer := stocked("aa 2 x:hi")
	none := api.Outcome{Answer: api.AnswerArchive, Who: api.Key{Name: "aa", Version: "2"}}
	p.expect(t, "an upgrade", p.apply(t, newer.index, asks("upgrade"), nil), none, "aa=1/0")
}

// P23.4: archives, one by one.
func TestArchives(t *testing.T) {
	t.Parallel()
	one := stocked("aa 1 x:hi")
	right, wrong := one.archives[0], stocked("aa 1 x:ho").archives[0]
	flipped := api.Blob{Name: right.Name, Data: slices.Clone(right.Data)}
	flipped.Data[100] ^= 1
	none := api.Outcome{Answer: api.AnswerArchive, Who: api.Key{Name: "aa", Version: "1"}}
	for _, c := range []struct {
		what     string
		archives []api.Blob
		want     api.Outcome
	}{
		{"none", nil, none},
		{"right", []api.Blob{right}, ok(1)},
		{"under another name", []api.Blob{{Name: "aa", Data: right.Data}}, none},
		{"under no name", []api.Blob{{Data: right.Data}}, none},
		{"of another package", []api.Blob{{Name: right.Name, Data: wrong.Data}}, none},
		{"without bytes", []api.Blob{{Name: right.Name}}, none},
		{"a bit is another", []api.Blob{flipped}, none},
		{"a byte too many", []api.Blob{{Name: right.Name, Data: append(slices.Clone(right.Data), 0)}}, none},
		{"a byte too few", []api.Blob{{Name: right.Name, Data: right.Data[:len(right.Data)-1]}}, none},
		{"twice, the first right", []api.Blob{right, flipped}, ok(1)},
		{"twice, the first wrong", []api.Blob{flipped, right}, none},
		{"behind others", []api.Blob{{Name: "zz"}, {}, right}, ok(1)},
		{"ahead of others", []api.Blob{right, {Name: "zz", Data: []byte("junk")}}, ok(1)},
	} {
		p := newPair(t)
		state := ""
		if c.want.Answer == api.AnswerOk {
			state = "aa=1/0"
		}
		p.expect(t, "P23.4: "+c.what, p.apply(t, one.index, asks("install aa"), c.archives), c.want, state)
		if c.want.Answer != api.AnswerOk && (len(p.d.Image()) > 0 || p.d.Calls() > 0) {
			t.Errorf("P0.4: %s: the store is changed", c.what)
		}
	}
}

// P23.4: packages without files, without an archive, without both.
func TestLoosePackages(t *testing.T) {
	t.Parallel()
	for _, c := range []struct {
		what, shelf string
		archives    bool
		answer      int
	}{
		{"no files, an archive", "aa 1", true, api.AnswerOk},
		{"no files, an archive that is missing", "aa 1", false, api.AnswerArchive},
		{"no files, no archive", "aa 1 loose", false, api.AnswerOk},
		{"files, no archive", "aa 1 x:hi loose", false, api.AnswerArchive},
	} {
		s := stocked(c.shelf)
		if !c.archives {
			s.archives = nil
		}
		p := newPair(t)
		if o := p.apply(t, s.index, asks("install aa"), s.archives); o.Answer != c.answer {
			t.Errorf("P23.4: %s: %+v", c.what, o)
		}
		p.whole(t, c.what)
	}
	// One without a name among the archives is nobody's.
	p, loose := newPair(t), stocked("aa 1 x:hi loose")
	p.expect(t, "P23.4: an archive without a name", p.apply(t, loose.index, asks("install aa"), []api.Blob{{Data: stocked("aa 1 x:hi").archives[0].Data}}), api.Outcome{Answer: api.AnswerArchive, Who: api.Key{Name: "aa", Version: "1"}}, "")
	// A displaced one without files wants nothing, whatever its archive is called.
	for _, old := range []string{"pp 1 depends=lib(=1); lib 1; qq 1 depends=lib", "pp 1 depends=lib(=1); lib 1; qq 1 depends=lib loose"} {
		p, _ := among(t, old)
		new := stocked("pp 2 pre=lib(>=2); lib 2")
		p.expect(t, "P23.4: displaced without files", p.apply(t, new.index, asks("install pp(>=2)"), new.archives), ok(4), "lib=2/0 pp=2/0 qq=1/0")
	}
}

// P23.4: the first package whose archive is missing is told: batch by batch, by rising names.
func TestFirstMissing(t *testing.T) {
	t.Parallel()
	all := stocked("aa 1 depends=bb x:1; bb 1 depends=cc depends=dd; cc 1 depends=dd; dd 1 depends=cc")
	p := newPair(t)
	for missing, who := range map[string]string{"aa": "aa", "aa bb": "bb", "aa dd": "dd", "cc dd aa": "cc", "aa bb cc dd": "cc"} {
		archives := slices.DeleteFunc(slices.Clone(all.archives), func(a api.Blob) bool { return strings.Contains(missing, a.Name[:2]) })
		want := api.Outcome{Answer: api.AnswerArchive, Who: api.Key{Name: who, Version: "1"}}
		p.expect(t, "P23.4: without "+missing, p.apply(t, all.index, asks("install aa"), archives), want, "")
	}
	p.expect(t, "P23.4: with all", p.apply(t, all.index, asks("install aa"), all.archives), ok(3), "aa=1/0 bb=1/1 cc=1/1 dd=1/1")
}
