package order_test

import (
	"math/rand/v2"
	"slices"
	"strings"
	"testing"

	"larder/api"
	"larder/samples"
	"larder/valid"
)

// tally counts what ways turn out to be.
type tally struct {
	ways, batches, cycles, cyclesKept           int
	kinds                                       [5]int
	several, later, loosened                    int
	displacing, keptSome, displaced, manyBehind int
}

func one(is bool) int {
	if is {
		return 1
	}
	return 0
}

func (c *tally) add(is found) {
	c.ways++
	c.batches += is.batches
	c.cycles += one(is.e == api.ErrOrdCycle && !is.kept)
	c.cyclesKept += one(is.e == api.ErrOrdCycle && is.kept)
	for kind, n := range is.kinds {
		c.kinds[kind] += n
	}
	c.several += one(is.several)
	c.later += one(is.later)
	c.loosened += one(is.loosened)
	c.displacing += one(is.displacing)
	c.keptSome += one(is.keptSome)
	c.displaced += one(is.displaced > 0)
	c.manyBehind += one(is.e == api.OK && is.batches > 3)
}

// check tells whether there was enough of everything.
func (c *tally) check(t *testing.T, least int) {
	t.Helper()
	for _, n := range append(c.kinds[1:], c.cycles, c.cyclesKept, c.several, c.later, c.loosened, c.displacing, c.keptSome, c.displaced, c.manyBehind) {
		if n < least {
			t.Errorf("the ways are no good: %+v", *c)
			return
		}
	}
}

// choices tells all Valid sets out of packages in order.
func choices(packages set) []set {
	all := []set{nil}
	for _, p := range packages {
		for _, s := range all[:len(all):len(all)] {
			if len(named(s, p.Name)) == 0 {
				all = append(all, append(slices.Clone(s), p))
			}
		}
	}
	return slices.DeleteFunc(all, func(s set) bool { return !valid.Valid(s) })
}

// P13.1 to P13.10: from all Valid sets to all Valid sets out of some packages.
func TestSmall(t *testing.T) {
	t.Parallel()
	var count tally
	for _, packages := range []string{
		"aa 1; aa 2 depends=bb; aa 3 pre=bb|cc; bb 1 depends=aa; bb 2 pre=aa; cc 1; cc 2 depends=aa|bb",
		"aa 1 depends=bb|cc; aa 2 pre=cc; bb 1; bb 2 depends=cc(>=2); cc 1 depends=bb(=1); cc 2 depends=aa(>=1)|bb",
		"aa 1 files=f; aa 2 conflicts=bb; bb 1 files=f; bb 2 provides=aa depends=aa files=g; cc 1 files=g conflicts=aa(<<2); cc 2 pre=aa",
		"aa 1 provides=xx pre=xx; aa 2 provides=xx depends=xx; bb 1 provides=xx; bb 2 pre=xx; cc 1 provides=xx conflicts=xx; cc 2 provides=xx depends=bb",
		"aa 1 depends=dd; bb 1 depends=cc; bb 2 pre=cc(=2); cc 1; cc 2; dd 1 depends=bb; dd 2",
		"aa 1 depends=ll; ll 1; ll 2; yy 1 depends=ll(=1); yy 2 pre=ll(=2); zz 1 pre=yy; zz 2",
	} {
		sets := choices(samples.Packages(packages))
		for _, from := range sets {
			for _, to := range sets {
				count.add(hold(t, way{from, to}))
			}
		}
	}
	count.check(t, 3)
}

// mixer makes packages by chance.
type mixer struct {
	*rand.Rand
	tight int // of ten atoms, how many want a package of the version that has them
}

func (m mixer) pick(texts ...string) string { return texts[m.IntN(len(texts))] }

// atom tells an atom of a name that may be there, or be provided alone.
func (m mixer) atom(version string) string {
	name := m.pick("aa", "bb", "cc", "dd", "ll", "mm", "xx", "yy")
	if m.IntN(10) < m.tight {
		return name + "(=" + version + ")"
	}
	if m.IntN(6) == 0 {
		return name + "(" + m.pick("<<2", "=1", "=2", ">=2", "<=1") + ")"
	}
	return name
}

func (m mixer) atoms(version, between string, most int) string {
	list := []string{m.atom(version)}
	for range m.IntN(most) {
		list = append(list, m.atom(version))
	}
	return strings.Join(list, between)
}

func (m mixer) words(version string) string {
	var words []string
	for range m.IntN(3) {
		words = append(words, "depends="+m.atoms(version, "|", 3))
	}
	if m.IntN(3) == 0 {
		words = append(words, "pre="+m.atoms(version, "|", 3))
	}
	if m.IntN(6) == 0 {
		words = append(words, "conflicts="+m.atoms("0", ",", 2))
	}
	if m.IntN(3) == 0 {
		words = append(words, "provides="+m.pick("xx", "yy", "xx,yy", "aa", "xx,bb", "yy,yy"))
	}
	if m.IntN(5) == 0 {
		words = append(words, "files="+m.pick("f", "g", "f,g", "h"))
	}
	return strings.Join(words, " ")
}

// universe makes packages of some names, in order, two of most of them. With core there are two of the last names that can't be exchanged but by a displacing batch.
func (m mixer) universe(core bool) set {
	var texts []string
	for _, name := range []string{"aa", "bb", "cc", "dd", "ll", "mm"} {
		for _, version := range []string{"1", "2"}[m.IntN(8)/7:] {
			texts = append(texts, name+" "+version+" "+m.words(version))
		}
	}
	if core {
		texts = slices.DeleteFunc(texts, func(text string) bool { return text > "ll" })
		texts = append(texts, "ll 1", "ll 2", "mm 1 depends=ll(=1)", "mm 2 pre=ll(=2)")
	}
	return samples.Packages(strings.Join(texts, "; "))
}

// of tells the packages of a version.
func of(s set, version string) set {
	return only(s, func(p api.Package) bool { return p.Version == version })
}

// valid makes a Valid set: of some packages, ahead of others, those are taken that go together, and what is closed of them is kept.
func (m mixer) valid(liked, others set) set {
	var s set
	for _, list := range []set{liked, others} {
		for _, i := range m.Perm(len(list)) {
			p := list[i]
			clashes := func(q api.Package) bool {
				return p.Name == q.Name || conflict(p, q) || conflict(q, p) || sharePath(p, q)
			}
			if m.IntN(10) > 0 && !slices.ContainsFunc(s, clashes) {
				s = append(s, p)
			}
		}
	}
	slices.SortFunc(s, byName)
	var closed set
	for _, i := range valid.Closed(s) {
		closed = append(closed, s[i])
	}
	return closed
}

// some tells some of a set.
func (m mixer) some(s set) set { return only(s, func(api.Package) bool { return m.IntN(2) == 0 }) }

// P13.1 to P13.10: mixed ways.
func TestMixed(t *testing.T) {
	t.Parallel()
	m := mixer{Rand: rand.New(rand.NewPCG(13, 1))}
	var count tally
	for i := range 640 {
		m.tight = i % 4 * 2
		all := m.universe(i%8 < 4)
		from := m.valid(of(all, "1"), m.some(all))
		count.add(hold(t, way{from, m.valid(m.some(all), all)}))
		count.add(hold(t, way{from, m.valid(append(of(all[max(0, len(all)-4):], "2"), m.some(from)...), all)}))
		count.add(hold(t, way{nil, m.valid(all, nil)}))
	}
	count.check(t, 20)
}
