package front_test

import (
	"slices"
	"testing"

	"larder/api"
	"larder/front"
	"larder/samples"
	"larder/store"
)

// parcel is all that is handed in to the calls, with room beyond the ends of its lists.
type parcel struct {
	text     []byte
	request  api.Request
	archives []api.Blob
	holds    []string
}

func parcelOf(text []byte, r api.Request, archives []api.Blob, holds []string) parcel {
	r.Wishes = samples.Roomy(r.Wishes, api.Wish{Kind: 9})
	r.Pins = samples.Roomy(r.Pins, api.Pin{Name: "beyond"})
	r.Holds = samples.Roomy(r.Holds, "beyond")
	return parcel{samples.Roomy(text, '!'), r, samples.RoomyBlobs(archives), samples.Roomy(holds, "beyond")}
}

// extent tells all that a parcel has room for.
func (p parcel) extent() string {
	r := p.request
	return told(samples.Room(p.text), samples.Room(r.Wishes), samples.Room(r.Pins), samples.Room(r.Holds), samples.ExtentOfBlobs(p.archives), samples.Room(p.holds))
}

// spoil writes over all that a parcel has room for.
func (p parcel) spoil() {
	samples.Fill(p.text, '?')
	samples.Fill(p.request.Wishes, api.Wish{Kind: api.WishRemove, Atom: api.Atom{Name: "spoiled"}})
	samples.Fill(p.request.Pins, api.Pin{Name: "spoiled"})
	samples.Fill(p.request.Holds, "spoiled")
	samples.SpoilBlobs(p.archives)
	samples.Fill(p.holds, "spoiled")
}

// What is handed in is neither written into nor kept.
func TestHandedIn(t *testing.T) {
	t.Parallel()
	const all = "aa 1 depends=bb x:hi; bb 1 y:ho; cc 1 z:zz auto"
	more := stocked("dd 1 depends=ee provides=mail conflicts=ff d:dd; ee 1 essential e:ee")
	request := asks("install mail; install aa; hold bb; upgrade")
	request.Pins = []api.Pin{{Name: "zz", Priority: 5}}
	calls := map[string]func(f *front.Front, p parcel) any{
		"Apply":   func(f *front.Front, p parcel) any { return f.Apply(p.text, p.request, p.archives) },
		"Plan":    func(f *front.Front, p parcel) any { b, o := f.Plan(p.text, p.request); return []any{b, o} },
		"Sweep":   func(f *front.Front, p parcel) any { return f.Sweep(p.holds) },
		"Undo":    func(f *front.Front, p parcel) any { return f.Undo(p.archives) },
		"Repair":  func(f *front.Front, p parcel) any { l, e := f.Repair(p.archives); return []any{l, e} },
		"Orphans": func(f *front.Front, p parcel) any { return f.Orphans(p.holds) },
		"Blame":   func(f *front.Front, p parcel) any { r, n, e := f.Blame(p.text, p.request); return []any{r, n, e} },
	}
	for what, call := range calls {
		old, s := among(t, all)
		old.both(func(d *store.Store) { d.Write("t/y", []byte("odd")) })
		old.both(func(d *store.Store) { d.Sync() })
		twin := pairOf(t, old.d.Image(), room)
		p := parcelOf(more.index, request, slices.Concat(more.archives, s.archives), []string{"bb"})
		same := parcelOf(more.index, request, slices.Concat(more.archives, s.archives), []string{"bb"})
		ahead := p.extent()
		got := call(old.f, p)
		if p.extent() != ahead {
			t.Errorf("%s writes into what it is handed", what)
		}
		want := call(twin.f, same)
		if told(got) != told(want) {
			t.Errorf("%s = %s, and the same again %s", what, told(got), told(want))
		}
		p.spoil()
		if told(got) != told(want) {
			t.Errorf("%s answers what it was handed: %s", what, told(got))
		}
		if told(old.f.Query(), old.f.History()) != told(twin.f.Query(), twin.f.History()) || told(old.d.Image()) != told(twin.d.Image()) {
			t.Errorf("%s keeps what it was handed: %s", what, told(old.f.Query()))
		}
		// And what is done next goes on from there.
		if got, want := old.f.Undo(s.archives), twin.f.Undo(s.archives); got != want || told(old.d.Image()) != told(twin.d.Image()) {
			t.Errorf("behind %s Undo = %+v, want %+v", what, got, want)
		}
	}
}

// What is answered is new memory: the caller may write over it.
func TestAnswered(t *testing.T) {
	t.Parallel()
	full := "aa 1 essential depends=bb|cc depends=dd pre=ee conflicts=ff,gg provides=hh,ii x:hi y:ho"
	p, s := among(t, full+"; bb 1 auto; cc 1 auto; dd 1; ee 1; zz 1 auto z:zz")
	r := asks("remove dd; remove ee; install aa; remove bb; remove cc")
	ask := func() []any {
		batches, _ := p.f.Plan(s.index, asks("remove zz"))
		wrong, _ := p.f.Audit()
		data, _ := p.f.Read("x")
		chain, _ := p.f.Chain("bb")
		rules, _, _ := p.f.Blame(s.index, r)
		return []any{p.f.Query(), p.f.History(), p.f.Orphans(nil), wrong, p.f.Paths(), data, chain, rules, batches}
	}
	p.both(func(d *store.Store) { d.Write("t/y", []byte("odd")) })
	want := told(ask()...)
	for range 2 {
		held, again := p.f.Query(), p.f.Query()
		var stanzas []api.Package
		for _, h := range slices.Concat(held, again) {
			stanzas = append(stanzas, h.Package)
		}
		if !samples.Apart(held, again) || !samples.PackagesApart(stanzas...) {
			t.Error("Query: lists share memory")
		}
		samples.SpoilHeld(held)
		past, then := p.f.History(), p.f.History()
		if !samples.EntriesApart(past, then) {
			t.Error("History: lists share memory")
		}
		samples.SpoilState(api.State{Past: past})
		samples.Fill(p.f.Orphans(nil), api.Key{Name: "spoiled"})
		samples.Fill(p.f.Paths(), "spoiled")
		wrong, _ := p.f.Audit()
		samples.Fill(wrong, api.Wrong{Kind: 9})
		data, _ := p.f.Read("x")
		samples.Fill(data, '?')
		chain, _ := p.f.Chain("bb")
		samples.Fill(chain, api.Key{Name: "spoiled"})
		rules, _, _ := p.f.Blame(s.index, r)
		var lits [][]int
		for _, rule := range rules {
			lits = append(lits, rule.Lits)
		}
		if len(rules) < 2 || !samples.Apart(lits...) {
			t.Errorf("Blame = %v: lists share memory", rules)
		}
		samples.FillRows(lits, 99)
		samples.Fill(rules, api.Rule{Kind: 9})
		batches, _ := p.f.Plan(s.index, asks("remove zz"))
		if len(batches) != 1 || !samples.Apart(batches[0].Out, batches[0].In) {
			t.Errorf("Plan = %v: lists share memory", batches)
		}
		samples.Fill(batches[0].Out, api.Key{Name: "spoiled"})
		samples.Fill(batches[0].In, api.Key{Name: "spoiled"})
		samples.Fill(batches, api.Batch{})
		left, _ := p.f.Repair(nil)
		samples.Fill(left, api.Wrong{Kind: 9})
		if got := told(ask()...); got != want {
			t.Fatalf("what is answered is kept: %s, want %s", got, want)
		}
	}
	p.hold(t, "behind all answers")
	expect(t, "and it goes on", p.f, p.apply(t, s.index, asks("remove zz"), nil), ok(1), "aa=1/0 bb=1/1 cc=1/1 dd=1/0 ee=1/0")
}

// Of several batches no two share memory.
func TestBatchesApart(t *testing.T) {
	t.Parallel()
	p, _ := among(t, "pp 1 depends=lib(=1) p:1; lib 1 l:1; qq 1 depends=lib")
	new := stocked("pp 2 pre=lib(>=2) p:2; lib 2 l:2")
	batches, _ := p.plan(t, new.index, asks("install pp(>=2)"))
	var lists [][]api.Key
	for _, b := range batches {
		lists = append(lists, b.Out, b.In)
	}
	if len(batches) != 4 || !samples.Apart(lists...) {
		t.Errorf("Plan = %v", batches)
	}
}
