package policy_test

import (
	"math/rand/v2"
	"slices"
	"testing"

	"larder/api"
	"larder/policy"
)

// holdStrict holds that the liking of each name's packages is a strict order of which no two are alike.
func holdStrict(t *testing.T, w world, p *policy.Policy) {
	t.Helper()
	for _, name := range w.names() {
		list := p.Ranked(name)
		for i, a := range list {
			for j, b := range list {
				if p.Less(a, b) != (i < j) {
					t.Fatalf("P8.8: %v: Less(%v, %v) = %t, ranked %d and %d", w, a, b, i >= j, i, j)
				}
				for _, c := range list {
					if p.Less(a, b) && p.Less(b, c) && !p.Less(a, c) {
						t.Fatalf("P8.8: %v: %v, %v, %v", w, a, b, c)
					}
				}
			}
		}
	}
}

// holdSame holds that two policies over the same packages tell the same of some names.
func holdSame(t *testing.T, w world, p, q *policy.Policy, names []string) {
	t.Helper()
	for _, name := range names {
		if a, b := p.Ranked(name), q.Ranked(name); !slices.Equal(a, b) {
			t.Fatalf("P8.8: %v: Ranked(%s) = %v, without the pin %v", w, name, b, a)
		}
		a, _ := p.Candidate(name)
		if b, _ := q.Candidate(name); a != b {
			t.Fatalf("P8.8: %v: Candidate(%s) = %v, without the pin %v", w, name, b, a)
		}
		for _, k := range p.Ranked(name) {
			a, _ := p.Priority(k)
			if b, _ := q.Priority(k); a != b {
				t.Fatalf("P8.8: %v: Priority(%v) = %d, without the pin %d", w, k, b, a)
			}
		}
	}
}

// laid tells a world with a pin more, at a place.
func (w world) laid(place int, p api.Pin) world {
	w.pins = slices.Insert(slices.Clone(w.pins), place, p)
	return w
}

// P8.8: the order; pins of other names; pins behind one that speaks of the same packages and more.
func TestFollows(t *testing.T) {
	r := rand.New(rand.NewPCG(8, 2))
	for range 1000 {
		w := mixed(r)
		p := w.make(t)
		holdStrict(t, w, p)
		for place := range len(w.pins) + 1 {
			stranger := w.laid(place, pin("yy", api.OpAny, "", 10000))
			holdSame(t, stranger, p, stranger.make(t), w.names())
			other := w.laid(place, pin("zz", api.OpAny, "", 10000))
			holdSame(t, other, p, other.make(t), slices.DeleteFunc(w.names(), func(name string) bool { return name == "zz" }))
		}
		for i, ahead := range w.pins {
			narrow := ahead
			narrow.Priority = 10000 - r.IntN(20001)
			if narrow.Name == "*" {
				narrow.Name = "aa"
			}
			if narrow.Op == api.OpAny {
				narrow.Op, narrow.Version = api.OpAtLeast, "1"
			}
			for place := i + 1; place <= len(w.pins); place++ {
				more := w.laid(place, narrow)
				holdSame(t, more, p, more.make(t), w.names())
			}
		}
	}
}

// P8.2, P8.8: the order of what is installed and of holds counts for nothing, nor do holds of what is not there.
func TestOrderOfHeld(t *testing.T) {
	r := rand.New(rand.NewPCG(8, 3))
	for range 300 {
		w := mixed(r)
		p := w.make(t)
		turned := w
		turned.installed, turned.holds = slices.Clone(w.installed), slices.Clone(w.holds)
		slices.Reverse(turned.installed)
		slices.Reverse(turned.holds)
		turned.holds = append(append(turned.holds, "yy"), w.holds...)
		holdSame(t, turned, p, turned.make(t), w.names())
		if a, b := p.Upgrades(), turned.make(t).Upgrades(); !slices.Equal(a, b) {
			t.Fatalf("P8.2: %v: Upgrades = %v, turned %v", w, a, b)
		}
	}
}
