package policy_test

import (
	"math/rand/v2"
	"slices"
	"strings"
	"testing"

	"larder/api"
	"larder/debver"
	"larder/policy"
)

// tell tells packages as `aa 1, aa 2`.
func tell(keys []api.Key) string {
	var texts []string
	for _, k := range keys {
		texts = append(texts, k.Name+" "+k.Version)
	}
	return strings.Join(texts, ", ")
}

// tellOne tells what a call answers that has a package or none.
func tellOne(k api.Key, ok bool) string {
	if ok {
		return k.Name + " " + k.Version
	}
	return "none" + k.Name + k.Version
}

// split is the way back from tell.
func split(text string) []string {
	if text == "" {
		return nil
	}
	return strings.Split(text, ", ")
}

func pin(name string, op int, version string, priority int) api.Pin {
	return api.Pin{Name: name, Op: op, Version: version, Priority: priority}
}

// The places that the oracle gives to versions are those of the order.
func TestAges(t *testing.T) {
	for a, i := range ages {
		for b, j := range ages {
			if d, e := debver.Compare(a, b); e != api.OK || d < 0 != (i < j) || d > 0 != (i > j) {
				t.Errorf("Compare(%s, %s) = %d, %d", a, b, d, e)
			}
		}
	}
}

// P8.3 to P8.7: the document's examples, and what stands at the bounds.
func TestExamples(t *testing.T) {
	for _, c := range []struct {
		what, packages, installed   string
		pins                        []api.Pin
		holds                       string
		ranked, candidate, upgrades string
	}{
		{"example 1", "aa 1, aa 2", "aa 1", nil, "", "aa 2, aa 1", "aa 2", "aa 2"},
		{"example 1, held", "aa 1, aa 2", "aa 1", nil, "aa", "aa 1, aa 2", "aa 1", ""},
		{"held twice, and by names of which nothing is there", "aa 1, aa 2", "aa 1", nil, "bb, aa, aa", "aa 1, aa 2", "aa 1", ""},
		{"another name held", "aa 1, aa 2, bb 1", "aa 1, bb 1", nil, "bb", "aa 2, aa 1", "aa 2", "aa 2"},
		{"held, of which nothing is installed", "aa 1, aa 2", "", nil, "aa", "aa 2, aa 1", "aa 2", ""},
		{"example 2, 990", "aa 1, aa 2, aa 3", "aa 2", []api.Pin{pin("aa", api.OpEqual, "1", 990)}, "", "aa 3, aa 2, aa 1", "aa 3", "aa 3"},
		{"example 2, 999", "aa 1, aa 2, aa 3", "aa 2", []api.Pin{pin("aa", api.OpEqual, "1", 999)}, "", "aa 3, aa 2, aa 1", "aa 3", "aa 3"},
		{"example 2, 1000", "aa 1, aa 2, aa 3", "aa 2", []api.Pin{pin("aa", api.OpEqual, "1", 1000)}, "", "aa 1, aa 3, aa 2", "aa 1", ""},
		{"example 2, 1000, held", "aa 1, aa 2, aa 3", "aa 2", []api.Pin{pin("aa", api.OpEqual, "1", 1000)}, "aa", "aa 2, aa 1, aa 3", "aa 2", ""},
		{"example 3", "aa 1, aa 2", "aa 1", []api.Pin{pin("*", api.OpAny, "", -1)}, "", "aa 2, aa 1", "aa 1", ""},
		{"example 3, nothing installed", "aa 1, aa 2", "", []api.Pin{pin("*", api.OpAny, "", -1)}, "", "aa 2, aa 1", "none", ""},
		{"0 is a candidate", "aa 1, aa 2", "", []api.Pin{pin("*", api.OpAny, "", 0)}, "", "aa 2, aa 1", "aa 2", ""},
		{"0 is a candidate, installed", "aa 1, aa 2", "aa 1", []api.Pin{pin("*", api.OpAny, "", 0)}, "", "aa 2, aa 1", "aa 2", "aa 2"},
		{"the later one is below 0", "aa 1, aa 2, aa 3", "aa 1", []api.Pin{pin("aa", api.OpEqual, "3", -1), pin("*", api.OpAny, "", -1)}, "", "aa 3, aa 2, aa 1", "aa 1", ""},
		{"the last of them is a candidate", "aa 1, aa 2, aa 3", "aa 3", []api.Pin{pin("aa", api.OpEqual, "1", 0), pin("*", api.OpAny, "", -10000)}, "", "aa 3, aa 1, aa 2", "aa 3", ""},
		{"example 4", "aa 1.0, aa 1.00", "", nil, "", "aa 1.00, aa 1.0", "aa 1.00", ""},
		{"one is installed that is equal by order", "aa 1.0, aa 1.00", "aa 1.00", nil, "", "aa 1.0, aa 1.00", "aa 1.0", ""},
		{"equal by order, so no step back", "aa 1.0, aa 1.00", "aa 1.0", []api.Pin{pin("aa", api.OpAny, "", 50)}, "", "aa 1.00, aa 1.0", "aa 1.00", ""},
		{"later by order, less as a string", "aa 10, aa 9", "aa 9", nil, "", "aa 10, aa 9", "aa 10", "aa 10"},
		{"the greater priority is higher", "aa 1, aa 2", "", []api.Pin{pin("aa", api.OpEqual, "1", 501)}, "", "aa 1, aa 2", "aa 1", ""},
		{"as high as without a pin", "aa 1, aa 2", "", []api.Pin{pin("aa", api.OpEqual, "1", 500)}, "", "aa 2, aa 1", "aa 2", ""},
		{"the least and the most", "aa 1, aa 2, aa 3", "", []api.Pin{pin("aa", api.OpEqual, "1", 10000), pin("aa", api.OpEqual, "3", -10000)}, "", "aa 1, aa 2, aa 3", "aa 1", ""},
		{"the first pin that speaks", "aa 1, aa 2", "", []api.Pin{pin("aa", api.OpLess, "2", 600), pin("*", api.OpAny, "", 550), pin("aa", api.OpEqual, "2", 700)}, "", "aa 1, aa 2", "aa 1", ""},
	} {
		p := world{packages: split(c.packages), installed: split(c.installed), pins: c.pins, holds: split(c.holds)}.make(t)
		ranked, candidate, upgrades := tell(p.Ranked("aa")), tellOne(p.Candidate("aa")), tell(p.Upgrades())
		if ranked != c.ranked || candidate != c.candidate || upgrades != c.upgrades {
			t.Errorf("P8.4 to P8.7: %s: %s; %s; %s, want %s; %s; %s", c.what, ranked, candidate, upgrades, c.ranked, c.candidate, c.upgrades)
		}
	}
}

// P8.3, P8.8: example 1's priorities; pins that speak, and those that do not.
func TestPriority(t *testing.T) {
	for _, c := range []struct {
		pins []api.Pin
		want []int // of aa 1, which is installed; aa 2; bb 1
	}{
		{nil, []int{100, 500, 500}},
		{[]api.Pin{pin("*", api.OpAny, "", 7)}, []int{7, 7, 7}},
		{[]api.Pin{pin("aa", api.OpAny, "", 7)}, []int{7, 7, 500}},
		{[]api.Pin{pin("*", api.OpAtMost, "1.0", 7)}, []int{7, 500, 7}},
		{[]api.Pin{pin("bb", api.OpEqual, "01", -10000), pin("aa", api.OpMore, "1", 10000)}, []int{100, 10000, -10000}},
		{[]api.Pin{pin("aa", api.OpEqual, "1", 0), pin("*", api.OpAny, "", -1)}, []int{0, -1, -1}},
		{[]api.Pin{pin("*", api.OpAny, "", -1), pin("aa", api.OpEqual, "1", 0)}, []int{-1, -1, -1}},
		{[]api.Pin{pin("cc", api.OpAny, "", 1), pin("aaa", api.OpAny, "", 2), pin("aa", api.OpAtLeast, "3", 3)}, []int{100, 500, 500}},
	} {
		w := world{packages: []string{"aa 1", "aa 2", "bb 1"}, installed: []string{"aa 1"}, pins: c.pins}
		p := w.make(t)
		for i, text := range w.packages {
			if got, ok := p.Priority(keyOf(text)); got != c.want[i] || !ok {
				t.Errorf("P8.3: pins %v: Priority(%s) = %d, %t, want %d", c.pins, text, got, ok, c.want[i])
			}
		}
	}
}

// P8.3 to P8.6: what is not in the universe; those that are may be liked more than 0 or less.
func TestStrangers(t *testing.T) {
	for _, priority := range []int{-1, 0, 1} {
		w := world{packages: []string{"aa 0", "aa 1", "aa 2", "bb 1.0", "bb 1.00"}, installed: []string{"aa 1 auto", "bb 1.0"}, holds: []string{"aa", "cc"}}
		w.pins = []api.Pin{pin("*", api.OpAny, "", priority)}
		p := w.make(t)
		w.hold(t, p)
		for _, k := range []api.Key{{}, {Name: "aa"}, {Version: "1"}, keyOf("aa 3"), keyOf("aa 1.0"), keyOf("bb 1"), keyOf("cc 1"), keyOf("AA 1"), {Name: "aa", Version: "1 "}} {
			holdNoPackage(t, p, k)
		}
		for _, name := range []string{"", "a", "aaa", "cc", "*", "aa 1"} {
			holdNoName(t, p, name)
		}
	}
}

// holdNoPackage holds what a policy tells of a package that it does not have.
func holdNoPackage(t *testing.T, p *policy.Policy, k api.Key) {
	t.Helper()
	if got, ok := p.Priority(k); got != 0 || ok {
		t.Errorf("P8.3: Priority(%q) = %d, %t", k, got, ok)
	}
	for _, other := range append(p.All(), k, keyOf("aa 4")) {
		if p.Less(k, other) || p.Less(other, k) {
			t.Errorf("P8.3: Less of %q and %q", k, other)
		}
	}
}

// holdNoName holds what a policy tells of a name of which it has no package.
func holdNoName(t *testing.T, p *policy.Policy, name string) {
	t.Helper()
	if got := p.Ranked(name); len(got) != 0 {
		t.Errorf("P8.4: Ranked(%q) = %v", name, got)
	}
	if got, ok := p.Candidate(name); got != (api.Key{}) || ok {
		t.Errorf("P8.5: Candidate(%q) = %v, %t", name, got, ok)
	}
	if got, ok := p.Installed(name); got != (api.Key{}) || ok {
		t.Errorf("P8.6: Installed(%q) = %v, %t", name, got, ok)
	}
	if got, ok := p.Mark(name); got != 0 || ok {
		t.Errorf("P8.6: Mark(%q) = %d, %t", name, got, ok)
	}
	if p.Held(name) {
		t.Errorf("P8.6: Held(%q)", name)
	}
}

// P8.9: no policy, and policies of nothing.
func TestNothing(t *testing.T) {
	for what, p := range map[string]*policy.Policy{
		"nil": nil, "zero": {}, "of nothing": world{}.make(t),
		"of pins and holds": world{pins: []api.Pin{pin("*", api.OpAny, "", 1), pin("aa", api.OpAny, "", 1)}, holds: []string{"aa"}}.make(t),
	} {
		if all, up := p.All(), p.Upgrades(); len(all) != 0 || len(up) != 0 {
			t.Errorf("P8.9: %s: All = %v, Upgrades = %v", what, all, up)
		}
		for _, k := range []api.Key{{}, keyOf("aa 1")} {
			holdNoPackage(t, p, k)
			holdNoName(t, p, k.Name)
		}
	}
}

// subsets gives all choices out of a list.
func subsets(list []string, yield func([]string)) {
	for bits := range 1 << len(list) {
		var chosen []string
		for i, x := range list {
			if bits>>i&1 == 1 {
				chosen = append(chosen, x)
			}
		}
		yield(chosen)
	}
}

// somePins are pins that differ in what they speak of and in how they stand to the bounds.
func somePins() []api.Pin {
	return []api.Pin{
		pin("*", api.OpAny, "", -1), pin("*", api.OpEqual, "1.0", 0), pin("bb", api.OpAny, "", 990),
		pin("aa", api.OpAny, "", 100), pin("aa", api.OpAtMost, "1", 999), pin("aa", api.OpLess, "1.00", 1000),
		pin("aa", api.OpEqual, "1.00", 500), pin("aa", api.OpAtLeast, "1.0", 1001), pin("aa", api.OpMore, "9", -10000),
	}
}

// P8.3 to P8.7: all choices of some versions, one of them installed or none, held or not, with no pin, one, or two in their order.
func TestAllSmall(t *testing.T) {
	rows := [][]api.Pin{nil}
	for _, a := range somePins() {
		rows = append(rows, []api.Pin{a})
		for _, b := range somePins() {
			rows = append(rows, []api.Pin{a, b})
		}
	}
	subsets([]string{"aa 0~", "aa 1", "aa 1.0", "aa 1.00", "aa 10", "aa 9"}, func(packages []string) {
		for i := range len(packages) + 1 {
			w := world{packages: packages}
			if i > 0 {
				w.installed = packages[i-1 : i]
			}
			for n, pins := range rows {
				w.pins, w.holds = pins, [][]string{nil, {"aa"}}[n%2]
				w.hold(t, w.make(t))
				w.holds = [][]string{{"bb", "aa", "aa"}, {"bb"}}[n%2]
				w.hold(t, w.make(t))
			}
		}
	})
}

// mixed makes a world of several names.
func mixed(r *rand.Rand) world {
	names := []string{"aa", "aa+", "aaa", "ab", "zz"}
	priorities := []int{-10000, -1, 0, 1, 99, 100, 101, 499, 500, 501, 999, 1000, 1001, 10000}
	versions := slices.Sorted(func(yield func(string) bool) {
		for v := range ages {
			if !yield(v) {
				return
			}
		}
	})
	var w world
	for _, name := range names {
		first := len(w.packages)
		for _, v := range versions {
			if r.IntN(3) == 0 {
				w.packages = append(w.packages, name+" "+v)
			}
		}
		if n := len(w.packages) - first; n > 0 && r.IntN(4) > 0 {
			w.installed = append(w.installed, w.packages[first+r.IntN(n)]+[]string{"", " auto"}[r.IntN(2)])
		}
		if r.IntN(4) == 0 {
			w.holds = append(w.holds, name)
		}
	}
	for range r.IntN(6) {
		p := pin(append(names, "*", "*")[r.IntN(len(names)+2)], r.IntN(6), "", priorities[r.IntN(len(priorities))])
		if p.Op != api.OpAny {
			p.Version = versions[r.IntN(len(versions))]
		}
		w.pins = append(w.pins, p)
	}
	r.Shuffle(len(w.installed), func(i, j int) { w.installed[i], w.installed[j] = w.installed[j], w.installed[i] })
	r.Shuffle(len(w.holds), func(i, j int) { w.holds[i], w.holds[j] = w.holds[j], w.holds[i] })
	return w
}

// P8.3 to P8.7: mixed worlds of several names.
func TestMixed(t *testing.T) {
	r := rand.New(rand.NewPCG(8, 1))
	for range 3000 {
		w := mixed(r)
		w.hold(t, w.make(t))
	}
}
