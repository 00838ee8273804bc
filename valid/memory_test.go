package valid_test

import (
	"reflect"
	"slices"
	"testing"

	"larder/api"
	"larder/samples"
	"larder/valid"
)

// given is what the calls are handed.
type given struct {
	s      []api.Package
	clause api.Clause
	wishes []api.Wish
	out    []api.Key
}

// answers is what they answer.
type answers struct {
	faults     []api.Fault
	is, met    bool
	unmet      []int
	closed     []int
	breaks     []api.Key
	metWithout bool
}

// sample makes what has an answer to each call, in lists with room beyond their ends.
func sample() given {
	s := samples.Packages("aa 1 depends=bb|xx depends=cc conflicts=dd,yy files=f,g; bb 1 provides=xx,yy pre=cc; cc 1 depends=zz files=f; dd 2 depends=bb pre=ee; ee 1; aa 2 depends=bb depends=ee")
	return given{
		samples.RoomyPackages(append(s, samples.Full("gg", "1"))),
		samples.Roomy(api.Clause{{Name: "zz"}, {Name: "xx"}}, api.Atom{Name: "aa"}),
		samples.Roomy(samples.Wishes("install zz; remove aa; install xx; remove dd(>=2)"), api.Wish{Kind: api.WishInstall}),
		samples.Roomy(keys("ee 1; cc 1"), api.Key{Name: "bb", Version: "1"}),
	}
}

func (g given) ask() answers {
	return answers{
		valid.Faults(g.s), valid.Valid(g.s), valid.Met(g.s, 0, g.clause, true),
		valid.Unmet(g.s, g.wishes), valid.Closed(g.s), valid.Breaks(g.s, g.out), valid.Met(g.s, 1, g.clause, true),
	}
}

// room tells a copy of all that has room there.
func (g given) room() given {
	return given{samples.ExtentOfPackages(g.s), samples.Room(g.clause), samples.Room(g.wishes), samples.Room(g.out)}
}

func (g given) spoil() {
	samples.SpoilPackages(g.s)
	samples.Fill(g.clause, api.Atom{Name: "aa"})
	samples.Fill(g.wishes, api.Wish{})
	samples.Fill(g.out, api.Key{Name: "aa", Version: "1"})
}

func (a answers) copied() answers {
	a.faults, a.unmet, a.closed, a.breaks = slices.Clone(a.faults), slices.Clone(a.unmet), slices.Clone(a.closed), slices.Clone(a.breaks)
	return a
}

func (a answers) spoil() {
	samples.Fill(a.faults, api.Fault{Kind: 9})
	samples.Fill(a.unmet, -9)
	samples.Fill(a.closed, -9)
	samples.Fill(a.breaks, api.Key{Name: "spoiled"})
}

// P11.8: what is handed in is not written into, and not kept.
func TestGivenMemory(t *testing.T) {
	g := sample()
	before := g.room()
	got := g.ask()
	if !reflect.DeepEqual(g.room(), before) {
		t.Error("P11.8: a call writes into what it is given")
	}
	if len(got.faults) < 5 || got.is || !got.met || got.metWithout || len(got.unmet) != 3 || len(got.closed) != 1 || len(got.breaks) < 2 {
		t.Errorf("the sample is no good: %+v", got)
	}
	want := got.copied()
	g.spoil()
	if !reflect.DeepEqual(got, want) {
		t.Error("P11.8: an answer shares memory with what was given")
	}
	if again := sample().ask(); !reflect.DeepEqual(again, want) {
		t.Errorf("P11.8: asked again: %+v, want %+v", again, want)
	}
}

// P11.8: what is answered is new memory.
func TestAnsweredMemory(t *testing.T) {
	g := sample()
	before := g.room()
	kept, got := g.ask(), g.ask()
	want := kept.copied()
	got.spoil()
	if !reflect.DeepEqual(kept, want) || !reflect.DeepEqual(g.room(), before) || !reflect.DeepEqual(g.ask(), want) {
		t.Error("P11.8: what is written into an answer is seen elsewhere")
	}
}
