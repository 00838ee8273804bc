package why_test

import (
	"fmt"
	"slices"
	"strings"
	"testing"

	"larder/api"
	"larder/debver"
	"larder/samples"
	"larder/why"
)

// installed reads installed packages with `; ` between them, as samples.Package does; one with the word auto is so marked, one with odd or below has a mark that is none, and the others are manual.
func installed(text string) []api.Held {
	marks := map[string]int{"auto": api.MarkAuto, "odd": 2, "below": -1}
	var held []api.Held
	for _, part := range samples.Parts(text) {
		h := api.Held{Mark: api.MarkManual}
		words := slices.DeleteFunc(strings.Fields(part), func(word string) bool {
			mark, is := marks[word]
			if is {
				h.Mark = mark
			}
			return is
		})
		h.Package = samples.Package(strings.Join(words, " "))
		held = append(held, h)
	}
	return held
}

// set is an installed set, and the chapter's words, said of it.
type set []api.Held

func (s set) String() string {
	var texts []string
	for i, h := range s {
		texts = append(texts, fmt.Sprintf("%d: mark %d %s", i, h.Mark, text(h.Package)))
	}
	return strings.Join(texts, "; ")
}

// text tells a package in a line.
func text(p api.Package) string {
	line := fmt.Sprintf("%q %q depends %v pre %v conflicts %v provides %q files", p.Name, p.Version, p.Depends, p.PreDepends, p.Conflicts, p.Provides)
	for _, f := range p.Files {
		line += " " + f.Path
	}
	return line
}

func (s set) hasTwice() bool {
	for i := range s {
		for j := range i {
			if s[i].Name == s[j].Name {
				return true
			}
		}
	}
	return false
}

// place tells where a name stands; -1: nowhere.
func (s set) place(name string) int {
	return slices.IndexFunc(s, func(h api.Held) bool { return h.Name == name })
}

func (s set) key(p int) api.Key { return api.Key{Name: s[p].Name, Version: s[p].Version} }

// satisfies tells whether the package at q is a satisfier of an atom.
func (s set) satisfies(q int, a api.Atom) bool {
	if a.Op == api.OpAny {
		return s[q].Name == a.Name || slices.Contains(s[q].Provides, a.Name)
	}
	fits, e := debver.Fits(s[q].Version, a.Op, a.Version)
	return s[q].Name == a.Name && fits && e == api.OK
}

// satisfiers tells those of an atom of p's clauses; of a Pre-Depends only other ones than p.
func (s set) satisfiers(p int, a api.Atom, pre bool) []int {
	var places []int
	for q := range s {
		if s.satisfies(q, a) && !(pre && q == p) {
			places = append(places, q)
		}
	}
	return places
}

// leans tells whether p leans on q.
func (s set) leans(p, q int) bool {
	for k, clauses := range [][]api.Clause{s[p].Depends, s[p].PreDepends} {
		for _, c := range clauses {
			for _, a := range c {
				list := s.satisfiers(p, a, k == 1)
				if len(list) == 0 {
					continue
				}
				if first := slices.MinFunc(list, func(a, b int) int { return strings.Compare(s[a].Name, s[b].Name) }); first == q && p != q {
					return true
				}
				break
			}
		}
	}
	return false
}

// chains tells all chains of so many packages to one, none of which comes to a package twice.
func (s set) chains(q, length int) [][]int {
	if length == 1 {
		if s[q].Mark == api.MarkManual {
			return [][]int{{q}}
		}
		return nil
	}
	var all [][]int
	for p := range s {
		if !s.leans(p, q) {
			continue
		}
		for _, chain := range s.chains(p, length-1) {
			if !slices.Contains(chain, q) {
				all = append(all, append(chain, q))
			}
		}
	}
	return all
}

func (s set) names(chain []int) []string {
	var names []string
	for _, p := range chain {
		names = append(names, s[p].Name)
	}
	return names
}

// chain tells, of all the shortest chains to a package, the one whose names are least from the first one on; and how many there are.
func (s set) chain(q int) ([]api.Key, int) {
	for length := 1; length <= len(s); length++ {
		all := s.chains(q, length)
		if len(all) == 0 {
			continue
		}
		var keys []api.Key
		for _, p := range slices.MinFunc(all, func(a, b []int) int { return slices.Compare(s.names(a), s.names(b)) }) {
			keys = append(keys, s.key(p))
		}
		return keys, len(all)
	}
	return nil, 0
}

// isMet tells whether a clause of p's has a satisfier, without one package (-1: with all).
func (s set) isMet(p int, c api.Clause, pre bool, without int) bool {
	for _, a := range c {
		for _, q := range s.satisfiers(p, a, pre) {
			if q != without {
				return true
			}
		}
	}
	return false
}

// alone tells, by rising names, who has a clause that is met, and is not without q.
func (s set) alone(q int) []api.Key {
	var keys []api.Key
	for p := range s {
		loses := func(pre bool) func(c api.Clause) bool {
			return func(c api.Clause) bool { return s.isMet(p, c, pre, -1) && !s.isMet(p, c, pre, q) }
		}
		if p != q && (slices.ContainsFunc(s[p].Depends, loses(false)) || slices.ContainsFunc(s[p].PreDepends, loses(true))) {
			keys = append(keys, s.key(p))
		}
	}
	slices.SortFunc(keys, func(a, b api.Key) int { return strings.Compare(a.Name, b.Name) })
	return keys
}

// answers is what is answered of a set, by places.
type answers struct {
	leans  [][]int
	chains [][]api.Key
	alone  [][]api.Key
	ways   []int // how many chains are as short
}

func (s set) want() answers {
	var a answers
	for p := range s {
		var row []int
		for q := range s {
			if s.leans(p, q) {
				row = append(row, q)
			}
		}
		chain, ways := s.chain(p)
		a.leans, a.chains, a.alone, a.ways = append(a.leans, row), append(a.chains, chain), append(a.alone, s.alone(p)), append(a.ways, ways)
	}
	return a
}

// hold holds Leans, and Chain and Alone of all names, against the chapter's words, and tells what should be answered.
func hold(t *testing.T, s set) answers {
	t.Helper()
	if s.hasTwice() {
		s.holdTwice(t)
		return answers{}
	}
	want := s.want()
	rows, e := why.Leans(s)
	if e != api.OK || !slices.EqualFunc(rows, want.leans, slices.Equal) {
		t.Errorf("P20.1: %v: Leans = %v, %d, want %v", s, rows, e, want.leans)
	}
	for p, h := range s {
		if chain, e := why.Chain(s, h.Name); e != api.OK || !slices.Equal(chain, want.chains[p]) {
			t.Errorf("P20.2: %v: Chain(%q) = %v, %d, want %v", s, h.Name, chain, e, want.chains[p])
		}
		if keys, e := why.Alone(s, h.Name); e != api.OK || !slices.Equal(keys, want.alone[p]) {
			t.Errorf("P20.3: %v: Alone(%q) = %v, %d, want %v", s, h.Name, keys, e, want.alone[p])
		}
		s.holdFollows(t, h.Name)
	}
	s.holdNone(t)
	return want
}

// holdFollows holds what follows of a chain.
func (s set) holdFollows(t *testing.T, name string) {
	t.Helper()
	chain, _ := why.Chain(s, name)
	if len(chain) > len(s) {
		t.Errorf("P20.5: %v: the chain to %q, %v, is longer than the set", s, name, chain)
	}
	for i := 1; i < len(chain); i++ {
		p, q := s.place(chain[i-1].Name), s.place(chain[i].Name)
		isMet := func(c api.Clause) bool {
			return slices.ContainsFunc(c, func(a api.Atom) bool { return s.satisfies(q, a) })
		}
		if !slices.ContainsFunc(slices.Concat(s[p].Depends, s[p].PreDepends), isMet) {
			t.Errorf("P20.5: %v: in the chain %v %d satisfies no clause of %d", s, chain, q, p)
		}
	}
}

// holdNone holds the calls of names that nobody has.
func (s set) holdNone(t *testing.T) {
	t.Helper()
	for _, name := range []string{"zzz", "a", "\xff", "Aa", "mail"} {
		if s.place(name) >= 0 {
			continue
		}
		if chain, e := why.Chain(s, name); e != api.ErrWhyNone || len(chain) > 0 {
			t.Errorf("P20.2: %v: Chain(%q) = %v, %d", s, name, chain, e)
		}
		if keys, e := why.Alone(s, name); e != api.ErrWhyNone || len(keys) > 0 {
			t.Errorf("P20.3: %v: Alone(%q) = %v, %d", s, name, keys, e)
		}
	}
}

// holdTwice holds the calls of a list that has a name twice: of names that it has, and of one that it has not.
func (s set) holdTwice(t *testing.T) {
	t.Helper()
	if rows, e := why.Leans(s); e != api.ErrWhyTwice || len(rows) > 0 {
		t.Errorf("P20.1: %v: Leans = %v, %d", s, rows, e)
	}
	for _, name := range append([]string{"zzz", ""}, s[0].Name, s[len(s)-1].Name) {
		if chain, e := why.Chain(s, name); e != api.ErrWhyTwice || len(chain) > 0 {
			t.Errorf("P20.2: %v: Chain(%q) = %v, %d", s, name, chain, e)
		}
		if keys, e := why.Alone(s, name); e != api.ErrWhyTwice || len(keys) > 0 {
			t.Errorf("P20.3: %v: Alone(%q) = %v, %d", s, name, keys, e)
		}
	}
}
