package orphans_test

import (
	"reflect"
	"slices"
	"testing"

	"larder/api"
	"larder/orphans"
	"larder/samples"
)

// given is what the calls are handed.
type given struct {
	scene
	held  []api.Held
	holds []string
}

// heard is what they answer.
type heard struct {
	answers
	roots []string
}

// sample makes what has an answer to each call, in lists with room beyond their ends.
func sample() given {
	u := samples.Packages("aa 1 depends=bb|xx pre=cc; bb 1; bb 2 provides=xx depends=bb; cc 1 provides=xx,yy; dd 1 depends=ee pre=cc; ee 1 pre=ff; ff 1 depends=ee depends=jj|kk; ii 1; jj 1; kk 1 depends=kk")
	u[7] = samples.Full("ii", "1")
	return given{
		scene{samples.RoomyPackages(u), samples.Roomy([]int{0, 2, 3, 4, 5, 6, 7, 8, 9}, 1), samples.Roomy([]int{0, 3}, 4)},
		samples.RoomyHeld(append(installed("dd auto; cc manual; bb auto; aa auto"), api.Held{Package: samples.Full("ii", "1"), Mark: api.MarkAuto})),
		samples.Roomy([]string{"zz", "bb"}, "aa"),
	}
}

func (g given) listen(t *testing.T) heard {
	t.Helper()
	a, e := g.ask(t)
	if e != api.OK {
		t.Errorf("the sample is no good: error %d", e)
	}
	return heard{a, orphans.Roots(g.held, g.holds)}
}

// room tells a copy of all that has room there.
func (g given) room() given {
	return given{scene{samples.ExtentOfPackages(g.u), samples.Room(g.set), samples.Room(g.roots)}, samples.ExtentOfHeld(g.held), samples.Room(g.holds)}
}

func (g given) spoil() {
	samples.SpoilPackages(g.u)
	samples.Fill(g.set, -9)
	samples.Fill(g.roots, -9)
	samples.SpoilHeld(g.held)
	samples.Fill(g.holds, "spoiled")
}

// lists tells all lists that were answered.
func (h heard) lists() [][]int {
	return slices.Concat([][]int{h.needed, h.orphans, h.distances}, h.chains, h.turns)
}

func (h heard) copied() heard {
	h.needed, h.orphans, h.distances, h.roots = slices.Clone(h.needed), slices.Clone(h.orphans), slices.Clone(h.distances), slices.Clone(h.roots)
	h.chains, h.turns = slices.Clone(h.chains), slices.Clone(h.turns)
	for _, rows := range [][][]int{h.chains, h.turns} {
		for i := range rows {
			rows[i] = slices.Clone(rows[i])
		}
	}
	return h
}

func (h heard) spoil() {
	for _, list := range h.lists() {
		samples.Fill(list, -9)
	}
	samples.Fill(h.turns, nil)
	samples.Fill(h.roots, "spoiled")
}

// P19.1 to P19.5: what is handed in is not written into, and not kept.
func TestGivenMemory(t *testing.T) {
	g := sample()
	before := g.room()
	got := g.listen(t)
	if !reflect.DeepEqual(g.room(), before) {
		t.Error("P19.1 to P19.5: a call writes into what it is given")
	}
	want := heard{
		answers{
			[]int{0, 2, 3}, []int{4, 5, 6, 7, 8, 9}, []int{0, 1, 0, -1, -1, -1, -1, -1, -1},
			[][]int{{0}, {0, 2}, {3}, nil, nil, nil, nil, nil, nil}, [][]int{{7}, {4}, {5, 6, 8, 9}},
		},
		[]string{"bb", "cc", "ii"},
	}
	if !sameRows(got.lists(), want.lists()) || !slices.Equal(got.roots, want.roots) {
		t.Errorf("P19.1 to P19.5: %+v, want %+v", got, want)
	}
	want = got.copied()
	g.spoil()
	if !reflect.DeepEqual(got, want) {
		t.Error("P19.1 to P19.5: an answer shares memory with what was given")
	}
	if again := sample().listen(t); !reflect.DeepEqual(again, want) {
		t.Errorf("P19.1 to P19.5: asked again: %+v, want %+v", again, want)
	}
}

// P19.1 to P19.5: what is answered is new memory.
func TestAnsweredMemory(t *testing.T) {
	g := sample()
	before := g.room()
	kept, got := g.listen(t), g.listen(t)
	want := kept.copied()
	got.spoil()
	if !reflect.DeepEqual(kept, want) || !reflect.DeepEqual(g.room(), before) || !reflect.DeepEqual(g.listen(t), want) {
		t.Error("P19.1 to P19.5: what is written into an answer is seen elsewhere")
	}
}

// P19.1 to P19.5: no two lists that are answered share memory, room beyond their ends too.
func TestAnswersApart(t *testing.T) {
	g := sample()
	for i := range g.listen(t).lists() {
		got := g.listen(t)
		want := got.copied().lists()
		samples.Fill(got.lists()[i], -9)
		for j, list := range got.lists() {
			if i != j && !slices.Equal(list, want[j]) {
				t.Errorf("P19.1 to P19.5: what is written into the list %d is seen in the list %d", i, j)
			}
		}
	}
}
