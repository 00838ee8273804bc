package front_test

import (
	"slices"
	"strings"
	"testing"

	"larder/api"
	"larder/front"
	"larder/samples"
	"larder/store"
)

// open makes an installer over a new store, and tells both.
func open(t *testing.T, capacity int) (*store.Store, *front.Front) {
	t.Helper()
	d := samples.Must(store.New(capacity))
	return d, samples.Must(front.Open(d))
}

// ok tells the outcome of a call that has carried out all of so many works.
func ok(works int) api.Outcome {
	return api.Outcome{Answer: api.AnswerOk, Done: works, Planned: works}
}

// expect holds an outcome and the state behind it.
func expect(t *testing.T, what string, f *front.Front, got, want api.Outcome, state string) {
	t.Helper()
	if got != want {
		t.Errorf("%s = %+v, want %+v", what, got, want)
	}
	if held := states(f.Query()); held != state {
		t.Errorf("%s: %q is installed, want %q", what, held, state)
	}
}

// keys tells keys as samples.Keys reads them.
func keys(list []api.Key) string {
	var words []string
	for _, k := range list {
		words = append(words, k.Name+"="+k.Version)
	}
	return strings.Join(words, " ")
}

// The chapter's first and second example.
func TestExamplesOfOne(t *testing.T) {
	aa := stocked("aa 1 x:hi")
	d, f := open(t, room)
	if len(f.Query()) > 0 || f.Seq() != 0 || len(f.History()) > 0 || len(f.Paths()) > 0 || d.Calls() != 0 {
		t.Errorf("P23.1: over an empty store: %v, %d, %d calls", f.Query(), f.Seq(), d.Calls())
	}
	none := api.Outcome{Answer: api.AnswerArchive, Who: api.Key{Name: "aa", Version: "1"}}
	expect(t, "P23.4: Apply without an archive", f, f.Apply(aa.index, asks("install aa"), nil), none, "")
	if d.Calls() != 0 {
		t.Errorf("P0.4: %d calls", d.Calls())
	}
	expect(t, "P23.5: Apply", f, f.Apply(aa.index, asks("install aa"), aa.archives), ok(1), "aa=1/0")
	if data, e := f.Read("x"); e != api.OK || string(data) != "hi" {
		t.Errorf("P23.11: Read = %q, %d", data, e)
	}
	if data, e := f.Read("y"); e != api.ErrFrontPath || data != nil {
		t.Errorf("P23.11: Read of no file = %q, %d", data, e)
	}
	if paths := f.Paths(); !slices.Equal(paths, []string{"x"}) {
		t.Errorf("P23.11: Paths = %q", paths)
	}
	if key, is := f.Owner("x"); !is || keys([]api.Key{key}) != "aa=1" {
		t.Errorf("P23.11: Owner = %v, %v", key, is)
	}
	if f.Seq() != 1 || told(f.History()) != told([]api.Entry{{Seq: 1, Group: 1, In: samples.Keys("aa=1")}}) {
		t.Errorf("P23.11: Seq = %d, History = %+v", f.Seq(), f.History())
	}
	seen := samples.Told(d)
	for _, archives := range [][]api.Blob{aa.archives, nil} {
		expect(t, "P23.5: Apply again", f, f.Apply(aa.index, asks("install aa"), archives), ok(0), "aa=1/0")
	}
	unsat := api.Outcome{Answer: api.AnswerUnsat, Why: 107}
	expect(t, "P23.2: Apply of an unknown name", f, f.Apply(aa.index, asks("install bb"), aa.archives), unsat, "aa=1/0")
	junk := api.Outcome{Answer: api.AnswerMalformed, Line: 1, Why: 31}
	expect(t, "P23.2: Apply of junk", f, f.Apply([]byte("junk"), asks("install aa"), aa.archives), junk, "aa=1/0")
	if samples.Told(d) != seen {
		t.Errorf("P0.4, P0.14: the store is %q, was %q", samples.Told(d), seen)
	}
}

// The third and the fourth example.
func TestExamplesOfTwo(t *testing.T) {
	both := stocked("aa 1 x:hi; bb 1 depends=aa")
	_, f := open(t, room)
	batches, o := f.Plan(both.index, asks("install bb"))
	if o != (api.Outcome{Answer: api.AnswerOk, Planned: 2}) || len(batches) != 2 || keys(batches[0].In) != "aa=1" || keys(batches[1].In) != "bb=1" {
		t.Errorf("P23.6: Plan = %v, %+v", batches, o)
	}
	expect(t, "install bb", f, f.Apply(both.index, asks("install bb"), both.archives), ok(2), "aa=1/1 bb=1/0")
	if l := f.Orphans(nil); len(l) > 0 {
		t.Errorf("P23.11: Orphans = %v", l)
	}
	if chain, e := f.Chain("aa"); e != api.OK || keys(chain) != "bb=1 aa=1" {
		t.Errorf("P23.11: Chain = %v, %d", chain, e)
	}
	expect(t, "remove bb", f, f.Apply(nil, asks("remove bb"), nil), ok(1), "aa=1/1")
	if l := f.Orphans(nil); keys(l) != "aa=1" {
		t.Errorf("P23.11: Orphans = %v", l)
	}
	if l := f.Orphans([]string{"aa", "zz"}); len(l) > 0 {
		t.Errorf("P23.11: Orphans with a hold = %v", l)
	}
	expect(t, "P23.7: Sweep with a hold", f, f.Sweep([]string{"aa"}), ok(0), "aa=1/1")
	expect(t, "P23.7: Sweep", f, f.Sweep(nil), ok(1), "")
	expect(t, "P23.7: Sweep again", f, f.Sweep(nil), ok(0), "")
	none := api.Outcome{Answer: api.AnswerArchive, Who: api.Key{Name: "aa", Version: "1"}}
	expect(t, "P23.8: Undo without an archive", f, f.Undo(nil), none, "")
	expect(t, "P23.8: Undo", f, f.Undo(both.archives), ok(1), "aa=1/1")
	expect(t, "P23.8: Undo of an Undo", f, f.Undo(nil), ok(1), "")
	expect(t, "P23.8: Undo once more", f, f.Undo(both.archives), ok(1), "aa=1/1")
	expect(t, "P23.3: a mark alone", f, f.Apply(both.index, asks("install aa"), nil), ok(1), "aa=1/0")
	if data, e := f.Read("x"); e != api.OK || string(data) != "hi" {
		t.Errorf("P23.11: Read = %q, %d", data, e)
	}
}

// The fifth example.
func TestExampleOfRoom(t *testing.T) {
	aa := stocked("aa 1 x:hi")
	d, f := open(t, len(aa.archives[0].Data))
	full := api.Outcome{Answer: api.AnswerFull, Planned: 1}
	expect(t, "P23.5: Apply without room", f, f.Apply(aa.index, asks("install aa"), aa.archives), full, "")
	for name := range samples.Seen(d) {
		t.Errorf("P0.2: %q is left", name)
	}
}

// The ten of the whole, as far as they go beyond the chapter's.
func TestExamplesOfTheWhole(t *testing.T) {
	t.Run("3", func(t *testing.T) {
		old, new := stocked("pp 1 depends=lib(=1) p:1; lib 1 l:1"), stocked("pp 2 pre=lib(>=2) p:2; lib 2 l:2")
		_, f := open(t, room)
		expect(t, "old", f, f.Apply(old.index, asks("install pp; install lib"), old.archives), ok(2), "lib=1/0 pp=1/0")
		batches, _ := f.Plan(new.index, asks("install pp(>=2)"))
		if len(batches) != 3 || keys(batches[0].Out) != "lib=1 pp=1" || len(batches[0].In) > 0 || keys(batches[1].In) != "lib=2" || keys(batches[2].In) != "pp=2" {
			t.Errorf("Plan = %v", batches)
		}
		expect(t, "new", f, f.Apply(new.index, asks("install pp(>=2)"), new.archives), ok(3), "lib=2/0 pp=2/0")
	})
	t.Run("4", func(t *testing.T) {
		knot, cycle := stocked("aa 1 depends=bb; bb 1 depends=aa"), stocked("aa 1 depends=bb; bb 1 pre=aa")
		d, f := open(t, room)
		expect(t, "a cycle", f, f.Apply(cycle.index, asks("install aa"), cycle.archives), api.Outcome{Answer: api.AnswerCycle}, "")
		if batches, o := f.Plan(cycle.index, asks("install bb")); o != (api.Outcome{Answer: api.AnswerCycle}) || batches != nil || d.Calls() != 0 {
			t.Errorf("P23.6: Plan = %v, %+v", batches, o)
		}
		expect(t, "a knot", f, f.Apply(knot.index, asks("install aa"), knot.archives), ok(1), "aa=1/0 bb=1/1")
	})
	t.Run("5", func(t *testing.T) {
		old, new := stocked("app 1 depends=lib a:1; lib 1 l:1"), stocked("lib 2 l:2")
		d, f := open(t, room)
		expect(t, "old", f, f.Apply(old.index, asks("install app"), old.archives), ok(2), "app=1/0 lib=1/1")
		calls := d.Calls()
		expect(t, "new", f, f.Apply(new.index, asks("upgrade"), new.archives), ok(1), "app=1/0 lib=2/1")
		if d.Calls()-calls != 6 {
			t.Errorf("%d calls", d.Calls()-calls)
		}
	})
	t.Run("6", func(t *testing.T) {
		all := stocked("aa 1 depends=xx|yy; xx 1; yy 1")
		_, f := open(t, room)
		expect(t, "old", f, f.Apply(all.index, asks("install aa; install xx"), all.archives), ok(2), "aa=1/0 xx=1/0")
		batches, _ := f.Plan(all.index, asks("remove xx; install yy"))
		if len(batches) != 2 || keys(batches[0].In) != "yy=1" || keys(batches[1].Out) != "xx=1" {
			t.Errorf("Plan = %v", batches)
		}
		expect(t, "new", f, f.Apply(all.index, asks("remove xx; install yy"), all.archives), ok(2), "aa=1/0 yy=1/0")
	})
	t.Run("10", func(t *testing.T) {
		d, f := open(t, room)
		aa := stocked("aa 1")
		expect(t, "both", f, f.Apply(aa.index, asks("install aa; remove aa"), aa.archives), api.Outcome{Answer: api.AnswerRefused, Why: 102}, "")
		text := append(slices.Clone(aa.index), "\nPackage: bb\njunk\n"...)
		line := strings.Count(string(text), "\n")
		expect(t, "no field", f, f.Apply(text, asks("install aa"), aa.archives), api.Outcome{Answer: api.AnswerMalformed, Why: 31, Line: line}, "")
		if d.Calls() != 0 {
			t.Errorf("P0.4: %d calls", d.Calls())
		}
	})
}

// The seventh of the whole: a frame torn at any byte is as if it had not been.
func TestTornFrames(t *testing.T) {
	t.Parallel()
	both := stocked("aa 1 x:hi; bb 1 y:ho")
	d, f := open(t, room)
	carried(t, f.Apply(both.index, asks("install aa"), both.archives))
	first := d.Image()
	size, _ := d.Size("d/journal")
	carried(t, f.Apply(both.index, asks("install bb"), both.archives))
	journal := samples.Must(d.Read("d/journal"))
	for n := size; n < len(journal); n++ {
		image := samples.Must(store.Load(first, room))
		samples.Must(0, image.Write("d/journal", journal[:n]))
		samples.Must(0, image.Write("n/2.0", []byte("ho")))
		p := pairOf(t, image.Image(), room)
		if got := states(p.f.Query()); got != "aa=1/0" {
			t.Errorf("P0.5: torn behind %d bytes: %q", n, got)
		}
		p.whole(t, "a torn frame")
		if told(p.d.Image()) != told(first) {
			t.Errorf("torn behind %d bytes: the store is %q", n, samples.Seen(p.d))
		}
	}
}

// carried ends a test that can't go on, where something was not carried out.
func carried(t *testing.T, o api.Outcome) {
	t.Helper()
	if o.Answer != api.AnswerOk {
		t.Fatalf("%+v", o)
	}
}

// The eighth: what is committed comes to be.
func TestPowerBehindACommit(t *testing.T) {
	t.Parallel()
	aa := stocked("aa 1 x:hi")
	d, f := open(t, room)
	d.Fuse(4)
	expect(t, "Apply", f, f.Apply(aa.index, asks("install aa"), aa.archives), api.Outcome{Answer: api.AnswerPower, Planned: 1}, "")
	d.Crash(api.Choice{})
	f = samples.Must(front.Open(d))
	if data, e := f.Read("x"); states(f.Query()) != "aa=1/0" || e != api.OK || string(data) != "hi" {
		t.Errorf("P0.5: %q is installed, and x is %q", states(f.Query()), data)
	}
}

// The ninth.
func TestHundredBytes(t *testing.T) {
	t.Parallel()
	all := stocked("aa 1 x:" + strings.Repeat("a", 200) + "; bb 1 y:hi")
	d, f := open(t, room)
	carried(t, f.Apply(all.index, asks("install bb"), all.archives))
	d.SetCapacity(d.Used() + 100)
	expect(t, "an install", f, f.Apply(all.index, asks("install aa"), all.archives), api.Outcome{Answer: api.AnswerFull, Planned: 1}, "bb=1/0")
	expect(t, "a removal", f, f.Apply(all.index, asks("remove bb"), all.archives), ok(1), "")
}

// An installer that is none answers nothing, one that Open has not made likewise.
func TestNone(t *testing.T) {
	aa := stocked("aa 1 x:hi")
	for what, f := range map[string]*front.Front{"nil": nil, "zero": {}} {
		batches, planned := f.Plan(aa.index, asks("install aa"))
		for i, o := range []api.Outcome{f.Apply(aa.index, asks("install aa"), aa.archives), planned, f.Sweep(nil), f.Undo(nil), f.Apply([]byte("junk"), asks("install aa; remove aa"), nil)} {
			if o != (api.Outcome{}) {
				t.Errorf("P23.1: %s: the outcome %d is %+v", what, i, o)
			}
		}
		_, repaired := f.Repair(aa.archives)
		_, audited := f.Audit()
		data, read := f.Read("x")
		chain, chained := f.Chain("aa")
		rules, verdict, blamed := f.Blame([]byte("junk"), asks("install aa"))
		for i, e := range []api.Errno{f.Mark("aa", 7), repaired, audited, read, chained, blamed} {
			if e != api.ErrArg {
				t.Errorf("P23.1: %s: the error %d is %d", what, i, e)
			}
		}
		key, is := f.Owner("x")
		if len(batches)+len(f.Query())+f.Seq()+len(f.History())+len(f.Orphans(nil))+len(f.Paths())+len(data)+len(chain)+len(rules)+verdict > 0 || is || key != (api.Key{}) {
			t.Errorf("P23.1: %s: something is answered", what)
		}
	}
}

// P23.1: what can't be opened.
func TestOpen(t *testing.T) {
	t.Parallel()
	dead := samples.Must(store.New(room))
	dead.Fuse(0)
	dead.Sync()
	for _, c := range []struct {
		what string
		d    *store.Store
		want api.Errno
	}{
		{"no store", nil, api.ErrArg},
		{"no power", dead, api.ErrStoDead},
		{"an odd checkpoint", samples.Disk(map[string]string{"d/status": "odd"}, room), api.ErrStaFile},
		{"an odd checkpoint, something staged", samples.Disk(map[string]string{"d/status": "", "n/1.0": "x"}, room), api.ErrStaFile},
	} {
		ahead := samples.Told(c.d)
		if f, e := front.Open(c.d); f != nil || e != c.want {
			t.Errorf("P23.1: %s: Open = %v, %d, want %d", c.what, f != nil, e, c.want)
		}
		if samples.Told(c.d) != ahead {
			t.Errorf("P23.1: %s: Open changes the store", c.what)
		}
	}
	d := samples.Disk(map[string]string{"n/1.0": "x", "d/status.new": "y", "t/x": "z"}, 0)
	f, e := front.Open(d)
	if f == nil || e != api.OK || !slices.Equal(f.Paths(), []string{"x"}) || len(d.Image()) != 1 {
		t.Errorf("P23.1: Open = %v, %d, and leaves %q", f != nil, e, samples.Seen(d))
	}
	calls := d.Calls()
	if f, e := front.Open(d); f == nil || e != api.OK || d.Calls() != calls {
		t.Errorf("P0.6: Open again = %v, %d, %d calls more", f != nil, e, d.Calls()-calls)
	}
}
