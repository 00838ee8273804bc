package audit_test

import (
	"slices"
	"testing"

	"larder/api"
	"larder/audit"
	"larder/samples"
	"larder/store"
)

// given is what the calls are handed.
type given struct {
	s        *store.Store
	held     []api.Held
	wrong    []api.Wrong
	archives []api.Blob
}

// sample makes what has an answer to each call, in lists with room beyond their ends.
func sample() given {
	held, archives := samples.AllMade("aa 1 auto essential depends=bb|zz provides=mail conflicts=yy x:hi y:hi; bb 2 pre=aa q:hi w:; cc 1 d:d")
	held[1].Files[0], held[1].Files[1] = held[1].Files[1], held[1].Files[0] // so that Check has something to put in order
	s := samples.Disk(map[string]string{"t/x": "ha", "t/q": "q", "t/z": "", "t/d": "d", "n/9.0": "", "d/other": ""}, room)
	wrong := wrongs("missing d cc 1; stray z; missing y aa 1; sum x aa 1; odd x; sum x")
	return given{s, samples.RoomyHeld(held), samples.Roomy(wrong, api.Wrong{Kind: 1, Path: "x"}), samples.RoomyBlobs(archives)}
}

// room tells a copy of all that has room there.
func (g given) room() given {
	return given{nil, samples.ExtentOfHeld(g.held), samples.Room(g.wrong), samples.ExtentOfBlobs(g.archives)}
}

// spoil writes over all that has room there.
func (g given) spoil() {
	samples.SpoilHeld(g.held)
	samples.Fill(g.wrong, api.Wrong{Kind: 2, Path: "spoiled"})
	samples.SpoilBlobs(g.archives)
}

// heard is what the calls answer.
type heard struct {
	checked []api.Wrong
	work    api.Work
	left    []api.Wrong
	counts  [7]int
	owner   api.Key
}

func (g given) hear(t *testing.T) heard {
	t.Helper()
	var h heard
	var e, f api.Errno
	h.checked, e = audit.Check(g.s, g.held)
	h.work, h.left, f = audit.Plan(g.held, g.wrong, g.archives)
	h.counts = audit.Summary(g.wrong)
	h.owner, _ = audit.Owner(g.held, "q")
	if e != api.OK || f != api.OK {
		t.Fatalf("Check, Plan = %d, %d", e, f)
	}
	return h
}

// want is what they should answer.
func want() string {
	return told(heard{
		checked: wrongs("sum x aa 1; missing y aa 1; size q bb 2; missing w bb 2; stray z; staged n/9.0; other d/other"),
		work:    api.Work{Mend: samples.Blobs("d:d x:hi y:hi")},
		left:    wrongs("stray z; odd x"),
		counts:  [7]int{1, 2, 0, 2, 1},
		owner:   api.Key{Name: "bb", Version: "2"},
	})
}

// Memory: what is handed in is not changed, and not kept.
func TestGiven(t *testing.T) {
	t.Parallel()
	g := sample()
	was, disk := told(g.room()), samples.Told(g.s)
	h := g.hear(t)
	if told(h) != want() {
		t.Fatalf("P21.1 to P21.3: %s, want %s", told(h), want())
	}
	if told(g.room()) != was || samples.Told(g.s) != disk {
		t.Error("Memory: what was handed in is changed")
	}
	g.spoil()
	for name := range g.s.Names("") {
		g.s.Write(name, []byte("spoiled"))
	}
	if told(h) != want() {
		t.Errorf("Memory: what was answered changes with what was handed in: %s", told(h))
	}
}

// Memory: what is answered is new each time.
func TestAnswered(t *testing.T) {
	t.Parallel()
	g := sample()
	was, disk := told(g.room()), samples.Told(g.s)
	first, second := g.hear(t), g.hear(t)
	samples.Fill(first.checked, api.Wrong{Kind: 9})
	samples.Fill(first.left, api.Wrong{Kind: 9})
	samples.SpoilBlobs(first.work.Mend)
	if told(second) != want() || told(g.room()) != was || samples.Told(g.s) != disk {
		t.Error("Memory: what is answered is shared")
	}
	if third := g.hear(t); told(third) != want() {
		t.Error("Memory: what was answered is kept")
	}
	samples.Fill(second.left, api.Wrong{Kind: 9})
	if told(second.work) != told(g.hear(t).work) {
		t.Error("Memory: lists of one answer share memory")
	}
}

// Memory: no file of a work runs into another's room, though all have the same bytes.
func TestFilesApart(t *testing.T) {
	t.Parallel()
	w := sample().hear(t).work
	for i := range w.Mend {
		samples.Fill(w.Mend[i].Data, byte('A'+i))
		w.Mend[i].Data = append(w.Mend[i].Data, '!')
	}
	for i, b := range w.Mend {
		for _, c := range b.Data[:len(b.Data)-1] {
			if c != byte('A'+i) {
				t.Errorf("Memory: two files of one work share memory: %q", b.Data)
			}
		}
	}
}

// Memory: nothing that is handed in is put in order, nor run over its end, when it is refused.
func TestRefusedIsKept(t *testing.T) {
	t.Parallel()
	for what, held := range noStates() {
		g := sample()
		g.held = samples.RoomyHeld(held)
		was := told(g.room())
		_, e := audit.Check(g.s, g.held)
		_, _, f := audit.Plan(g.held, g.wrong, g.archives)
		if e != api.ErrAudState || f != api.ErrAudState || told(g.room()) != was {
			t.Errorf("Memory: %s: Check = %d, Plan = %d, or what was handed in is changed", what, e, f)
		}
	}
}

// Nil and empty are one.
func TestNilAndEmpty(t *testing.T) {
	t.Parallel()
	s := samples.Disk(map[string]string{"t/x": "hi"}, room)
	for _, held := range [][]api.Held{nil, {}, make([]api.Held, 0, 3)} {
		if got := holdCheck(t, "nothing installed", s, held); !slices.Equal(got, wrongs("stray x")) {
			t.Errorf("P21.1: Check = %v", got)
		}
		for _, wrong := range [][]api.Wrong{nil, {}, make([]api.Wrong, 0, 3)} {
			for _, archives := range [][]api.Blob{nil, {}, make([]api.Blob, 0, 3)} {
				if w, left := holdPlan(t, "nothing", held, wrong, archives); !sameWork(w, api.Work{}) || len(left) > 0 {
					t.Errorf("P21.2: Plan = %s, %v", told(w), left)
				}
			}
			if counts := audit.Summary(wrong); counts != [7]int{} {
				t.Errorf("P21.3: Summary = %v", counts)
			}
		}
		if k, ok := audit.Owner(held, ""); k != (api.Key{}) || ok {
			t.Errorf("P21.3: Owner = %v, %v", k, ok)
		}
	}
	h, a := samples.Made("aa 1 x:")
	h.Files = samples.Roomy(h.Files, api.File{Path: "beyond"})
	h.Depends, h.Provides = []api.Clause{}, []string{}
	w, left := holdPlan(t, "empty lists", []api.Held{h}, wrongs("size x"), []api.Blob{a})
	if len(w.Mend) != 1 || len(w.Mend[0].Data) > 0 || len(left) > 0 {
		t.Errorf("P21.2: Plan = %s, %v", told(w), left)
	}
	if got := holdCheck(t, "empty lists", s, []api.Held{h}); !slices.Equal(got, wrongs("size x aa 1")) {
		t.Errorf("P21.1: Check = %v", got)
	}
}
