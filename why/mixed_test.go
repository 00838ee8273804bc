package why_test

import (
	"math/rand/v2"
	"slices"
	"strings"
	"testing"

	"larder/api"
	"larder/samples"
	"larder/valid"
)

// drawn makes an installed set in which some depend on others, as bits say: bit i*n+j tells that the one at i depends on the one at j; and marks are told by the bits of a number, 1 for manual.
func drawn(names []string, bits, manual int) set {
	s := make(set, len(names))
	for i, name := range names {
		s[i] = api.Held{Package: api.Package{Name: name, Version: "1"}, Mark: api.MarkAuto}
		if manual>>i&1 == 1 {
			s[i].Mark = api.MarkManual
		}
		for j, other := range names {
			if bits>>(i*len(names)+j)&1 == 1 {
				s[i].Depends = append(s[i].Depends, api.Clause{{Name: other}})
			}
		}
	}
	return s
}

// tally counts sets by what is answered of them.
type tally struct {
	long, ways, without, alone, standIn, valid int
}

func (c *tally) add(t *testing.T, s set) {
	t.Helper()
	want := hold(t, s)
	long, ways, without, alone, standIn := 0, 0, 0, 0, 0
	for p := range want.chains {
		long = max(long, len(want.chains[p]))
		ways = max(ways, want.ways[p])
		if len(want.chains[p]) == 0 {
			without++
		}
		if len(want.alone[p]) > 1 {
			alone++
		}
		if len(want.alone[p]) == 0 && slices.ContainsFunc(want.leans, func(row []int) bool { return slices.Contains(row, p) }) {
			standIn++
		}
	}
	for _, count := range []struct {
		is bool
		n  *int
	}{
		{long > 2, &c.long}, {ways > 1, &c.ways}, {without > 0, &c.without}, {alone > 0, &c.alone}, {standIn > 0, &c.standIn}, {len(s) > 2 && valid.Valid(s.packages()), &c.valid},
	} {
		if count.is {
			*count.n++
		}
	}
}

func (s set) packages() []api.Package {
	var list []api.Package
	for _, h := range s {
		list = append(list, h.Package)
	}
	return list
}

// P20.1 to P20.3, P20.5: all ways in which three depend on one another and on themselves, with all marks, in two orders.
func TestThree(t *testing.T) {
	t.Parallel()
	var count tally
	for bits := range 1 << 9 {
		for manual := range 1 << 3 {
			count.add(t, drawn([]string{"aa", "bb", "cc"}, bits, manual))
			count.add(t, drawn([]string{"bb", "cc", "aa"}, bits, manual))
		}
	}
	if min(count.long, count.ways, count.without, count.alone) < 50 {
		t.Errorf("the sets are no good: %+v", count)
	}
}

// P20.1 to P20.3, P20.5: all ways in which four depend on one another, with one, two and three of them manual.
func TestFour(t *testing.T) {
	t.Parallel()
	var count tally
	for ways := range 1 << 12 {
		bits := 0
		for edge := range 12 {
			from, to := edge/3, edge%3
			if to >= from {
				to++
			}
			bits |= ways >> edge & 1 << (from*4 + to)
		}
		for _, manual := range []int{1, 6, 14} {
			count.add(t, drawn([]string{"cc", "dd", "aa", "bb"}, bits, manual))
		}
	}
	if min(count.long, count.ways, count.without, count.alone) < 500 {
		t.Errorf("the sets are no good: %+v", count)
	}
}

// mixer makes things by chance.
type mixer struct{ *rand.Rand }

func pick[T any](m mixer, items ...T) T { return items[m.IntN(len(items))] }

func (m mixer) name() string {
	return pick(m, "aa", "bb", "cc", "dd", "ee", "ff", "gg", "hh", "xx", "yy")
}

func (m mixer) atom() string {
	if m.IntN(3) > 0 {
		return m.name()
	}
	return m.name() + "(" + pick(m, "<<", "<=", "=", ">=", ">>") + pick(m, "1", "1.0", "2", "10") + ")"
}

// row makes so many atoms or fewer.
func (m mixer) row(between string, most int) string {
	atoms := []string{m.atom()}
	for range m.IntN(most) {
		atoms = append(atoms, m.atom())
	}
	return strings.Join(atoms, between)
}

// words makes what a package says, with so many clauses or fewer.
func (m mixer) words(name string, needs int) string {
	words := []string{name, pick(m, "1", "1.00", "2", "9")}
	for range m.IntN(needs + 1) {
		words = append(words, pick(m, "depends=", "depends=", "pre=")+m.row("|", 3))
	}
	if m.IntN(3) == 0 {
		words = append(words, "provides="+pick(m, "xx", "yy", "xx,yy,xx", "aa", "hh,xx", name))
	}
	if m.IntN(8) == 0 {
		words = append(words, "conflicts="+m.row(",", 2))
	}
	return strings.Join(words, " ")
}

// installed makes an installed set whose names are in any order.
func (m mixer) installed(needs, manual int) set {
	var texts []string
	for _, name := range []string{"aa", "bb", "cc", "dd", "ee", "ff", "gg", "xx"} {
		if m.IntN(5) > 0 {
			mark := pick(m, " auto", " auto", " auto", " auto", " odd")
			if m.IntN(manual) == 0 {
				mark = ""
			}
			texts = append(texts, m.words(name, needs)+mark)
		}
	}
	m.Shuffle(len(texts), func(i, j int) { texts[i], texts[j] = texts[j], texts[i] })
	return installed(strings.Join(texts, "; "))
}

// closed tells what of a set can be with what it needs.
func (s set) closed() set {
	var whole set
	for _, p := range valid.Closed(s.packages()) {
		whole = append(whole, s[p])
	}
	return whole
}

// P20.1 to P20.3, P20.5: mixed sets, whole ones and others.
func TestMixed(t *testing.T) {
	t.Parallel()
	m := mixer{rand.New(rand.NewPCG(20, 1))}
	var count tally
	for i := range 6000 {
		s := m.installed(1+m.IntN(4), 2+m.IntN(5))
		if i%2 == 0 {
			s = s.closed()
		}
		count.add(t, s)
	}
	if min(count.long, count.ways, count.without, count.alone, count.standIn, count.valid) < 300 {
		t.Errorf("the sets are no good: %+v", count)
	}
}

// P20.1 to P20.3: mixed sets in which one name may be another's.
func TestMixedTwice(t *testing.T) {
	t.Parallel()
	m := mixer{rand.New(rand.NewPCG(20, 2))}
	twice := 0
	for range 2000 {
		s := m.installed(2, 3)
		if len(s) > 0 {
			s[m.IntN(len(s))].Name = pick(m, "aa", "bb", "gg", "xx", "zz")
		}
		hold(t, s)
		if s.hasTwice() {
			twice++
		}
	}
	if twice < 300 || twice > 1700 {
		t.Errorf("the sets are no good: %d of 2000 have a name twice", twice)
	}
}

// P20.1, P20.2: in another order of the list the same leans on the same, and the chains are the same.
func TestAnyOrder(t *testing.T) {
	t.Parallel()
	text := samples.Parts("dd 1 auto depends=aa; aa 1 depends=cc|bb; cc 1 auto depends=xx; bb 1 auto provides=xx")
	for _, list := range samples.Lists(text, 4) {
		s := set(installed(strings.Join(list, "; ")))
		hold(t, s)
		if len(s) < 4 || s.hasTwice() {
			continue
		}
		for p, chain := range s.want().chains {
			if want := map[string]string{"aa": "aa", "bb": "aa cc bb", "cc": "aa cc", "dd": ""}[s[p].Name]; tell(chain) != want {
				t.Errorf("P20.2: %v: %v, want %s", s, chain, want)
			}
		}
	}
}
