package why_test

import (
	"reflect"
	"slices"
	"testing"

	"larder/api"
	"larder/samples"
	"larder/why"
)

// given is what the calls are handed: a scene, and another installed set.
type given struct {
	scene
	set set
}

// sample makes what has an answer to each call, in lists with room beyond their ends.
func sample() given {
	s := see("aa 1 conflicts=zz,bb; aa 2 pre=zz files=f depends=cc; aa 3 files=a,f; bb 1 provides=xx,yy; cc 1 files=f depends=xx|bb", "aa 1; cc 1", "install bb; upgrade; install cc", "zz; cc")
	s.u = append(s.u, samples.Full("ii", "1"))
	s.held = append(s.held, api.Held{Package: samples.Full("ii", "1"), Mark: api.MarkAuto})
	s.r.Pins = []api.Pin{{Name: "aa", Op: api.OpLess, Version: "2", Priority: 600}, {Name: "*", Priority: 100}}
	s.r.Wishes = append(s.r.Wishes, samples.Wishes("remove ii(>>1)")...)
	held := installed("mm 1 auto provides=xx; aa 1 depends=xx depends=nn|oo pre=bb; nn 2 auto depends=bb(=3) pre=xx|aa; zz 1; bb 3 auto depends=cc; cc 1 auto depends=nn")
	return given{
		scene{samples.RoomyPackages(s.u), samples.RoomyHeld(s.held), api.Request{
			Wishes: samples.Roomy(s.r.Wishes, api.Wish{Kind: 9}),
			Budget: s.r.Budget,
			Pins:   samples.Roomy(s.r.Pins, api.Pin{Name: "beyond", Op: 9}),
			Holds:  samples.Roomy(s.r.Holds, "beyond"),
		}},
		samples.RoomyHeld(append(held, api.Held{Package: samples.Full("ii", "1"), Mark: api.MarkAuto})),
	}
}

// room tells a copy of all that has room there.
func (g given) room() given {
	g.u, g.held, g.set = samples.ExtentOfPackages(g.u), samples.ExtentOfHeld(g.held), samples.ExtentOfHeld(g.set)
	g.r.Wishes, g.r.Pins, g.r.Holds = samples.Room(g.r.Wishes), samples.Room(g.r.Pins), samples.Room(g.r.Holds)
	return g
}

// spoil writes over all that has room there.
func (g given) spoil() {
	samples.SpoilPackages(g.u)
	samples.SpoilHeld(g.held)
	samples.SpoilHeld(g.set)
	samples.Fill(g.r.Wishes, samples.Wish("install spoiled"))
	samples.Fill(g.r.Pins, api.Pin{Name: "*", Priority: -1})
	samples.Fill(g.r.Holds, "spoiled")
}

// heard is what the calls answer.
type heard struct {
	leans  [][]int
	chains [][]api.Key
	alone  [][]api.Key
	rules  []api.Rule
}

func (g given) listen(t *testing.T) heard {
	t.Helper()
	var h heard
	errors := make([]api.Errno, 2)
	h.leans, errors[0] = why.Leans(g.set)
	h.rules, _, errors[1] = g.blame()
	for _, name := range []string{"aa", "bb", "cc", "ii", "mm", "nn", "zz"} {
		chain, e1 := why.Chain(g.set, name)
		alone, e2 := why.Alone(g.set, name)
		h.chains, h.alone, errors = append(h.chains, chain), append(h.alone, alone), append(errors, e1, e2)
	}
	if slices.ContainsFunc(errors, func(e api.Errno) bool { return e != api.OK }) {
		t.Errorf("the sample is no good: errors %v", errors)
	}
	return h
}

func copyRows[T any](rows [][]T) [][]T {
	rows = slices.Clone(rows)
	for i := range rows {
		rows[i] = slices.Clone(rows[i])
	}
	return rows
}

func (h heard) copied() heard {
	h.leans, h.chains, h.alone, h.rules = copyRows(h.leans), copyRows(h.chains), copyRows(h.alone), slices.Clone(h.rules)
	for i := range h.rules {
		h.rules[i].Lits = slices.Clone(h.rules[i].Lits)
	}
	return h
}

// numbers tells all lists of numbers that were answered.
func (h heard) numbers() [][]int { return append(slices.Clone(h.leans), literals(h.rules)...) }

func (h heard) spoil() {
	for _, list := range h.numbers() {
		samples.Fill(list, -9)
	}
	for _, list := range slices.Concat(h.chains, h.alone) {
		samples.Fill(list, api.Key{Name: "spoiled"})
	}
	samples.Fill(h.leans, nil)
	samples.Fill(h.rules, api.Rule{Kind: 77})
}

// P20.6: what is handed in is not written into, and not kept.
func TestGivenMemory(t *testing.T) {
	g := sample()
	before := g.room()
	got := g.listen(t)
	if !reflect.DeepEqual(g.room(), before) {
		t.Error("P20.6: a call writes into what it is given")
	}
	want := got.copied()
	if len(want.rules) != 6 || len(slices.Concat(want.leans...)) != 9 || len(slices.Concat(want.chains...)) != 11 || len(slices.Concat(want.alone...)) != 7 {
		t.Errorf("P20.6: the sample is no good: %+v", want)
	}
	g.spoil()
	if !reflect.DeepEqual(got, want) {
		t.Error("P20.6: an answer shares memory with what was given")
	}
	if again := sample().listen(t); !reflect.DeepEqual(again, want) {
		t.Errorf("P20.6: asked again: %+v, want %+v", again, want)
	}
}

// P20.6: what is answered is new memory.
func TestAnsweredMemory(t *testing.T) {
	g := sample()
	before := g.room()
	kept, got := g.listen(t), g.listen(t)
	want := kept.copied()
	got.spoil()
	if !reflect.DeepEqual(kept, want) || !reflect.DeepEqual(g.room(), before) || !reflect.DeepEqual(g.listen(t), want) {
		t.Error("P20.6: what is written into an answer is seen elsewhere")
	}
}

// P20.6: no two lists that are answered share memory, room beyond their ends too.
func TestAnswersApart(t *testing.T) {
	g := sample()
	for i := range g.listen(t).numbers() {
		got := g.listen(t)
		want := got.copied().numbers()
		samples.Fill(got.numbers()[i], -9)
		for j, list := range got.numbers() {
			if i != j && !slices.Equal(list, want[j]) {
				t.Errorf("P20.6: what is written into the list %d is seen in the list %d", i, j)
			}
		}
	}
}
