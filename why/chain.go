package why

import (
	"slices"

	"larder/api"
)

// link is a package to which a chain leads.
type link struct {
	place int
	ahead int // the number of the link that leans on it; nobody: it is manual
}

// walk goes from the manual packages to those that they lean on, by breadth.
type walk struct {
	set
	links []link // those that it has come to, in the order of their chains
	seen  []bool // by places
}

// come comes to packages, by rising names, unless the walk has been there.
func (w *walk) come(places []int, ahead int) {
	for _, place := range w.byNames(places) {
		if !w.seen[place] {
			w.seen[place] = true
			w.links = append(w.links, link{place, ahead})
		}
	}
}

// chain tells the places of the least of the shortest chains to a package; none, if there is no chain.
func (s set) chain(to int) []int {
	w := &walk{set: s, seen: make([]bool, len(s.held))}
	w.come(s.manual(), nobody)
	// Links of one length stand in the order of their chains, so the first one that leans on a package has the least chain to it.
	for number := 0; number < len(w.links); number++ {
		place := w.links[number].place
		if place == to {
			return w.back(number)
		}
		w.come(s.leansOn(place), number)
	}
	return nil
}

func (s set) manual() []int {
	var places []int
	for place := range s.held {
		if s.held[place].Mark == api.MarkManual {
			places = append(places, place)
		}
	}
	return places
}

// back tells the places along a chain, from its first package to the link of a number.
func (w *walk) back(number int) []int {
	var places []int
	for ; number != nobody; number = w.links[number].ahead {
		places = append(places, w.links[number].place)
	}
	slices.Reverse(places)
	return places
}
