package resolve_test

import (
	"reflect"
	"slices"
	"testing"

	"larder/api"
	"larder/samples"
)

// roomy tells a copy of a scene whose lists all have room beyond their ends.
func (s scene) roomy() scene {
	return scene{samples.RoomyPackages(s.u), samples.RoomyHeld(s.held), api.Request{
		Wishes: samples.Roomy(s.r.Wishes, api.Wish{Kind: 9}),
		Budget: s.r.Budget,
		Pins:   samples.Roomy(s.r.Pins, api.Pin{Name: "beyond", Op: 9}),
		Holds:  samples.Roomy(s.r.Holds, "beyond"),
	}}
}

// room tells a copy of all that has room there.
func (s scene) room() scene {
	s.u, s.held = samples.ExtentOfPackages(s.u), samples.ExtentOfHeld(s.held)
	s.r.Wishes, s.r.Pins, s.r.Holds = samples.Room(s.r.Wishes), samples.Room(s.r.Pins), samples.Room(s.r.Holds)
	return s
}

// spoil writes over all that has room there.
func (s scene) spoil() {
	samples.SpoilPackages(s.u)
	samples.SpoilHeld(s.held)
	samples.Fill(s.r.Wishes, samples.Wish("install spoiled"))
	samples.Fill(s.r.Pins, api.Pin{Name: "*", Priority: -1})
	samples.Fill(s.r.Holds, "spoiled")
}

// answers is what the calls answer.
type answers struct {
	rules   []api.Rule
	clauses [][]int
	prefer  []int
	target  []int
	is      bool
}

func (s scene) ask(set []int) answers {
	var a answers
	a.rules, _ = rulesOf(s)
	a.clauses, _ = clausesOf(s)
	a.prefer, _ = preferOf(s)
	a.target, _, _ = targetOf(s)
	a.is, _ = meetsOf(s, set)
	return a
}

// copied tells a copy that shares no memory.
func (a answers) copied() answers {
	copied := answers{prefer: slices.Clone(a.prefer), target: slices.Clone(a.target), is: a.is}
	for _, r := range a.rules {
		r.Lits = slices.Clone(r.Lits)
		copied.rules = append(copied.rules, r)
	}
	for _, c := range a.clauses {
		copied.clauses = append(copied.clauses, slices.Clone(c))
	}
	return copied
}

// lists tells all lists of numbers that are answered.
func (a answers) lists() [][]int {
	lists := append(slices.Clone(a.clauses), a.prefer, a.target)
	for _, r := range a.rules {
		lists = append(lists, r.Lits)
	}
	return lists
}

// someScenes tells what has a target, what has none, and what is refused.
func someScenes() []scene {
	packages := "aa 1 files=f,g essential; aa 2 depends=xx|bb depends=cc conflicts=dd,yy; bb 1 provides=xx pre=cc; cc 1; dd 1 files=f provides=yy,xx"
	list := []scene{
		see(packages, "aa 1; dd 1", "upgrade; install xx; remove dd", "aa; zz"),
		see(packages, "cc 1; aa 1", "install aa(>=2); upgrade; install xx", ""),
		see(packages, "aa 1", "install aa; install dd; install xx", "aa"),
		see(packages, "", "install aa(>=2); install dd", "aa"),
		see(packages, "aa 1", "install bb; remove aa", "aa"),
	}
	for i := range list {
		list[i].r.Pins = []api.Pin{{Name: "aa", Op: api.OpLess, Version: "2", Priority: 600}, {Name: "*", Priority: i * 100}}
	}
	return list
}

// P10.2 to P10.5: what is handed in is not written into, nor kept.
func TestGivenMemory(t *testing.T) {
	unlike := 0
	for i, s := range someScenes() {
		given, set := s.roomy(), samples.Roomy([]int{1, 2, 3}, 77)
		before := given.room()
		got := given.ask(set)
		if !reflect.DeepEqual(given.room(), before) || !slices.Equal(set[:cap(set)], []int{1, 2, 3, 77, 77}) {
			t.Errorf("P10.2 to P10.5: %d: what is handed in is written into", i)
		}
		kept := got.copied()
		given.spoil()
		samples.Fill(set, 0)
		if !reflect.DeepEqual(got.copied(), kept) {
			t.Errorf("P10.2 to P10.5: %d: the answer shares memory with what was handed in", i)
		}
		if again := s.ask([]int{1, 2, 3}); !reflect.DeepEqual(again.copied(), kept) {
			t.Errorf("P10.2 to P10.5: %d: asked again: %+v, want %+v", i, again, kept)
		}
		if len(kept.target) > 0 {
			unlike++
		}
	}
	if unlike < 2 || unlike > 3 {
		t.Errorf("the scenes are no good: %d have targets", unlike)
	}
}

// P10.2 to P10.5: what is answered is new memory, each list its own.
func TestAnsweredMemory(t *testing.T) {
	for i, s := range someScenes() {
		given := s.roomy()
		before := given.room()
		kept, got := given.ask(nil), given.ask(nil)
		want := kept.copied()
		for j, list := range got.lists() {
			samples.Fill(list, 100+j)
			_ = append(list, 99, 99)
		}
		for j, list := range got.lists() {
			if slices.ContainsFunc(list, func(l int) bool { return l != 100+j }) {
				t.Errorf("P10.2 to P10.5: %d: two lists of an answer share memory: %v", i, list)
			}
		}
		if !reflect.DeepEqual(kept.copied(), want) || !reflect.DeepEqual(given.room(), before) {
			t.Errorf("P10.2 to P10.5: %d: what is written into an answer is seen elsewhere", i)
		}
	}
}

// P10.1 to P10.5: asked in another order of what is held, the same is answered.
func TestHeldOrder(t *testing.T) {
	for i, s := range someScenes() {
		want := s.ask(nil)
		slices.Reverse(s.held)
		if got := s.ask(nil); !reflect.DeepEqual(got, want) {
			t.Errorf("P10.2: %d: %+v, want %+v", i, got, want)
		}
	}
}
