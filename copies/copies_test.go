package copies_test

import (
	"fmt"
	"testing"

	"larder/api"
	"larder/copies"
	"larder/samples"
)

func told(x any) string { return fmt.Sprintf("%+v", x) }

// full is a state that has lists of every kind, some of them twice: what is one list in it must not be one in a copy.
func full() api.State {
	p := samples.Full("aa", "1")
	p.Depends = append(p.Depends, p.Depends[0])
	p.PreDepends = p.Depends
	held := []api.Held{{Package: p, Mark: api.MarkAuto}, {Package: p}}
	keys := []api.Key{{Name: "aa", Version: "1"}, {Name: "bb", Version: "2"}}
	entries := []api.Entry{{Seq: 2, Group: 1, Out: keys, In: keys}, {Seq: 3, Group: 1, Out: keys}}
	return api.State{Seq: 3, Held: held, Group: 1, Before: held, Past: entries}
}

// What is copied is the same, and neither the copy nor what it is of changes with the other.
func TestState(t *testing.T) {
	s := samples.RoomyState(full())
	extent, want := told(samples.ExtentOfState(s)), told(full())
	first, second := copies.State(s), copies.State(s)
	if told(first) != want || told(second) != want {
		t.Fatalf("State = %s", told(first))
	}
	samples.SpoilState(first)
	if told(second) != want || told(samples.ExtentOfState(s)) != extent {
		t.Error("what a copy is of changes with it")
	}
	samples.SpoilState(s)
	if told(second) != want {
		t.Error("a copy changes with what it is of")
	}
}

// No two lists of a copy share memory, whatever those share that it is of.
func TestListsApart(t *testing.T) {
	bad, key := api.Atom{Name: "spoiled"}, api.Key{Name: "spoiled"}
	for i, spoil := range []func(s api.State){
		func(s api.State) { samples.SpoilHeld(s.Held) },
		func(s api.State) { samples.Spoil(s.Held[0].Package) },
		func(s api.State) { samples.FillRows(s.Held[0].Depends, bad) },
		func(s api.State) { samples.Fill(s.Held[0].Depends[0], bad) },
		func(s api.State) { samples.Fill(s.Past[0].Out, key) },
	} {
		whole := full()
		spoil(copies.State(whole))
		if told(whole) != told(full()) {
			t.Errorf("the spoiling %d goes through to what was copied", i)
		}
	}
	s := copies.State(full())
	samples.Fill(s.Held[0].Depends[0], bad)
	if told(s.Held[0].Depends[1:]) != told(full().Held[0].Depends[1:]) || told(s.Held[0].PreDepends) != told(full().Held[0].PreDepends) {
		t.Error("two clauses share memory")
	}
	s = copies.State(full())
	samples.Spoil(s.Held[0].Package)
	if told(s.Held[1]) != told(full().Held[1]) || told(s.Before) != told(full().Before) {
		t.Error("two packages share memory")
	}
	samples.SpoilHeld(s.Held)
	samples.Fill(s.Past[0].Out, key)
	if told(s.Before) != told(full().Before) || told(s.Past[0].In) != told(full().Past[0].In) || told(s.Past[1]) != told(full().Past[1]) {
		t.Error("two lists of a state share memory")
	}
}

func TestPackages(t *testing.T) {
	ps := samples.RoomyPackages([]api.Package{samples.Full("aa", "1"), samples.Full("bb", "2")})
	want := told(ps)
	list, one := copies.Packages(ps), copies.Package(ps[0])
	held := copies.Held([]api.Held{{Package: ps[1], Mark: api.MarkAuto}})
	samples.SpoilPackages(ps)
	if told(list) != want || told(one) != told(samples.Full("aa", "1")) || told(held) != told([]api.Held{{Package: samples.Full("bb", "2"), Mark: api.MarkAuto}}) {
		t.Errorf("copies change: %s, %s, %s", told(list), told(one), told(held))
	}
	entries := copies.Entries(full().Past)
	samples.Fill(entries[0].Out, api.Key{Name: "spoiled"})
	if told(entries[0].In) != told(full().Past[0].In) || told(entries[1]) != told(full().Past[1]) {
		t.Errorf("two lists of entries share memory: %s", told(entries))
	}
	if got := copies.Packages(nil); len(got) > 0 {
		t.Errorf("Packages(nil) = %v", got)
	}
	if got := copies.State(api.State{}); told(got) != told(api.State{}) {
		t.Errorf("State of nothing = %v", got)
	}
}

func TestBlobs(t *testing.T) {
	one := []byte("hi")
	blobs := samples.RoomyBlobs([]api.Blob{{Name: "x", Data: one}, {Name: "y"}})
	blobs[1].Data = blobs[0].Data
	want := told(blobs)
	list := copies.Blobs(blobs)
	if told(list) != want || !samples.Apart(list, blobs) || !samples.Apart(list[0].Data, list[1].Data, blobs[0].Data) {
		t.Errorf("Blobs = %v", list)
	}
	samples.SpoilBlobs(blobs)
	if told(list) != want || len(copies.Blobs(nil)) > 0 {
		t.Errorf("what was copied changes its copies: %v", list)
	}
}
