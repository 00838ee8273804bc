package resolve

import (
	"iter"
	"slices"

	"larder/api"
	"larder/relation"
)

// book takes rules down.
type book struct {
	rules []api.Rule
	stood map[string]struct{} // the clauses of these rules, as texts
	text  []byte              // room for the text of one
	many  bool                // there was one too many
}

// add takes a rule down, unless its clause has stood already.
func (b *book) add(r api.Rule) {
	b.write(r.Lits)
	if _, stood := b.stood[string(b.text)]; stood {
		return
	}
	if len(b.rules) == api.MaxRules {
		b.many = true
		return
	}
	b.stood[string(b.text)] = struct{}{}
	b.rules = append(b.rules, r)
}

// write makes the text of some literals, which no others have.
func (b *book) write(literals []int) {
	b.text = b.text[:0]
	for _, l := range literals {
		b.text = append(b.text, byte(l), byte(l>>8), byte(l>>16), byte(l>>24))
	}
}

// rules tells the clauses of the request, with their reasons.
func (w *world) rules() ([]api.Rule, api.Errno) {
	b := &book{stood: make(map[string]struct{})}
	w.addWishes(b)
	w.addHolds(b)
	w.addNames(b)
	paths := w.paths()
	for p := range w.u {
		// Asked at each package, since what is still to come may be very much.
		if b.many {
			break
		}
		w.addNeeds(b, p)
		w.addConflicts(b, p)
		w.addPaths(b, p, paths)
	}
	if b.many {
		return nil, api.ErrResMany
	}
	return b.rules, api.OK
}

func (w *world) addWishes(b *book) {
	said := make(map[api.Wish]int)
	for i, wish := range w.request.Wishes {
		// The same wish again has no clause that has not stood.
		if _, again := said[wish]; again {
			continue
		}
		said[wish] = i
		switch wish.Kind {
		case api.WishInstall:
			b.add(api.Rule{Kind: api.RuleInstall, Index: i, Lits: eachTrue(w.satisfiers(api.Clause{wish.Atom}))})
		case api.WishRemove:
			for _, p := range slices.Sorted(slices.Values(w.fitting(wish.Atom))) {
				b.add(api.Rule{Kind: api.RuleRemove, Who: keyOf(w.u[p]), Index: i, Lits: []int{no(p)}})
			}
		case api.WishUpgrade:
			w.addUpgrade(b, i)
		}
	}
}

// addUpgrade asks for some package of each installed name that is not to be removed.
func (w *world) addUpgrade(b *book, wish int) {
	removed := namesIn(w.request.Wishes, api.WishRemove)
	for _, p := range w.installed {
		if _, gone := removed[w.u[p].Name]; !gone {
			b.add(api.Rule{Kind: api.RuleUpgrade, Who: keyOf(w.u[p]), Index: wish, Lits: eachTrue(w.named[w.u[p].Name])})
		}
	}
}

func (w *world) addHolds(b *book) {
	for i, name := range w.request.Holds {
		if k, installed := w.liked.Installed(name); installed {
			b.add(api.Rule{Kind: api.RuleHold, Who: k, Index: i, Lits: []int{yes(w.places[k])}})
		}
	}
}

// addNames forbids two packages of one name; the universe has them side by side.
func (w *world) addNames(b *book) {
	for p := range w.u {
		for q := p + 1; q < len(w.u) && w.u[q].Name == w.u[p].Name && !b.many; q++ {
			w.addPair(b, api.RuleName, p, 0, q)
		}
	}
}

// addNeeds asks for what a package's Depends and Pre-Depends ask for.
func (w *world) addNeeds(b *book, p int) {
	for i, c := range w.u[p].Depends {
		// Only of Depends a package may be its own satisfier.
		if _, own := relation.First(c, w.u[p]); !own {
			w.addNeed(b, api.RuleDepends, p, i, c)
		}
	}
	for i, c := range w.u[p].PreDepends {
		w.addNeed(b, api.RulePre, p, i, c)
	}
}

// addNeed asks for another package that meets a clause of p's.
func (w *world) addNeed(b *book, kind, p, number int, c api.Clause) {
	literals := []int{no(p)}
	for _, q := range w.satisfiers(c) {
		if q != p {
			literals = append(literals, yes(q))
		}
	}
	b.add(api.Rule{Kind: kind, Who: keyOf(w.u[p]), Index: number, Lits: literals})
}

// addConflicts forbids each other package that one of p's Conflicts names.
func (w *world) addConflicts(b *book, p int) {
	conflicts := w.u[p].Conflicts
	first := firstOf(len(conflicts), func(i int) iter.Seq[int] { return w.meeting(conflicts[i]) })
	for _, q := range inOrder(first) {
		if q != p {
			w.addPair(b, api.RuleConflict, p, first[q], q)
		}
	}
}

// addPaths forbids each later package that has a path of p's.
func (w *world) addPaths(b *book, p int, paths map[string][]int) {
	files := w.u[p].Files
	first := firstOf(len(files), func(i int) iter.Seq[int] { return slices.Values(paths[files[i].Path]) })
	for _, q := range inOrder(first) {
		if q > p {
			w.addPair(b, api.RulePath, p, first[q], q)
		}
	}
}

// addPair forbids two packages together, for a reason that the first one has.
func (w *world) addPair(b *book, kind, who, number, other int) {
	b.add(api.Rule{
		Kind: kind, Who: keyOf(w.u[who]), Index: number, Other: keyOf(w.u[other]),
		Lits: []int{no(min(who, other)), no(max(who, other))},
	})
}

// eachTrue tells the literals that say that packages are there.
func eachTrue(places []int) []int {
	literals := make([]int, len(places))
	for i, p := range places {
		literals[i] = yes(p)
	}
	return literals
}
