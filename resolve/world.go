package resolve

import (
	"slices"

	"larder/api"
	"larder/policy"
)

// world is a universe as a request that may be looks at it.
type world struct {
	directory // of all packages, those of a name as they are liked
	liked     *policy.Policy
	places    map[api.Key]int
	installed []int // places, rising
	request   api.Request
}

// open makes the world of a request, or tells why that may not be.
func open(u []api.Package, held []api.Held, r api.Request) (*world, api.Errno) {
	if e := Check(u, held, r); e != api.OK {
		return nil, e
	}
	w := &world{places: placesOf(u), request: r}
	// No error: all that policy asks for has been checked.
	w.liked, _ = policy.New(u, held, r.Pins, r.Holds)
	var ranked []int
	for _, k := range w.liked.All() {
		ranked = append(ranked, w.places[k])
	}
	w.directory = directoryOf(u, ranked)
	for _, h := range held {
		w.installed = append(w.installed, w.places[keyOf(h.Package)])
	}
	slices.Sort(w.installed)
	return w, api.OK
}

// paths tells who has a path: places, rising.
func (w *world) paths() map[string][]int {
	paths := make(map[string][]int)
	for p := range w.u {
		for _, f := range w.u[p].Files {
			paths[f.Path] = append(paths[f.Path], p)
		}
	}
	return paths
}

// prefer tells what is tried first: name by name, where the installed package is Essential ahead of the others.
func (w *world) prefer() []int {
	later := w.later()
	var first, then []int
	for _, p := range w.installed {
		var literals []int
		if q, is := later[w.u[p].Name]; is {
			literals = append(literals, yes(q))
		}
		literals = append(literals, yes(p))
		if w.u[p].Essential {
			first = append(first, literals...)
		} else {
			then = append(then, literals...)
		}
	}
	return append(first, then...)
}

// later tells the places of what would come for installed names; nothing, if no upgrade is wished.
func (w *world) later() map[string]int {
	places := make(map[string]int)
	if !hasUpgrade(w.request.Wishes) {
		return places
	}
	for _, k := range w.liked.Upgrades() {
		places[k.Name] = w.places[k]
	}
	return places
}

// hasUpgrade tells whether an upgrade is wished.
func hasUpgrade(wishes []api.Wish) bool {
	return slices.Contains(wishes, api.Wish{Kind: api.WishUpgrade})
}
