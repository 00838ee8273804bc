package policy_test

import (
	"strconv"
	"strings"
	"testing"

	"larder/api"
	"larder/policy"
	"larder/relation"
)

// P8.1: all pins of some names, operators, versions and priorities, right and wrong.
func TestCheckPin(t *testing.T) {
	long := strings.Repeat("a", api.MaxName)
	names := map[string]bool{
		"*": true, "aa": true, "0+": true, long: true,
		"": false, "a": false, "**": false, "a*": false, "*a": false, " *": false, "Aa": false, "-a": false, "aa bb": false, "?": false, long + "a": false,
	}
	longVersion := strings.Repeat("1", api.MaxVersion)
	versions := map[string]bool{
		"1": true, "1:0-1": true, "0~": true, longVersion: true,
		" ": false, "1 ": false, "a": false, "1-": false, ":1": false, "*": false, longVersion + "1": false,
	}
	priorities := map[int]bool{
		-10000: true, -1: true, 0: true, 999: true, 1000: true, 10000: true,
		-10001: false, 10001: false, -1 << 63: false, 1<<63 - 1: false, 1 << 32: false,
	}
	hold := func(p api.Pin, right bool) {
		t.Helper()
		want := api.ErrPolPin
		if right {
			want = api.OK
		}
		if got := policy.CheckPin(p); got != want {
			t.Errorf("P8.1: CheckPin(%.300q) = %d, want %d", []any{p.Name, p.Op, p.Version, p.Priority}, got, want)
		}
		if q, e := policy.New(nil, nil, []api.Pin{pin("aa", api.OpAny, "", 0), p}, nil); e != want || (q != nil) != right {
			t.Errorf("P8.2: New with the pin %.300v = %d, want %d", p, e, want)
		}
	}
	for name, rightName := range names {
		for priority, rightPriority := range priorities {
			for _, op := range []int{-1 << 63, -1, api.OpAny, api.OpLess, api.OpAtMost, api.OpEqual, api.OpAtLeast, api.OpMore, 6, 1<<63 - 1} {
				hold(pin(name, op, "", priority), rightName && rightPriority && op == api.OpAny)
				for version, rightVersion := range versions {
					hold(pin(name, op, version, priority), rightName && rightPriority && op >= api.OpLess && op <= api.OpMore && rightVersion)
				}
			}
		}
	}
}

// refused holds that New answers an error and nothing else.
func refused(t *testing.T, what string, u []api.Package, held []api.Held, pins []api.Pin, holds []string, want api.Errno) {
	t.Helper()
	if p, e := policy.New(u, held, pins, holds); p != nil || e != want {
		t.Errorf("P8.2: %s: %v, %d, want %d", what, p != nil, e, want)
	}
}

// taken holds that New answers a policy.
func taken(t *testing.T, what string, u []api.Package, held []api.Held, pins []api.Pin, holds []string) {
	t.Helper()
	if p, e := policy.New(u, held, pins, holds); p == nil || e != api.OK {
		t.Errorf("P8.2: %s: %d", what, e)
	}
}

// P8.2: universes that are none.
func TestWrongUniverse(t *testing.T) {
	for _, c := range []struct {
		u    []api.Package
		want api.Errno
	}{
		{[]api.Package{pkg("aa 2"), pkg("aa 1")}, api.ErrIdxOrder},
		{[]api.Package{pkg("bb 1"), pkg("aa 1")}, api.ErrIdxOrder},
		{[]api.Package{pkg("aa 1"), pkg("aa 1")}, api.ErrIdxTwice},
		{[]api.Package{pkg("aa 1"), pkg("b 1")}, api.ErrCtlName},
		{[]api.Package{pkg("* 1")}, api.ErrCtlName},
		{[]api.Package{pkg("aa x")}, api.ErrCtlVersion},
		{[]api.Package{{Name: "aa", Version: "1", Summary: "a\nb"}}, api.ErrCtlSummary},
		{[]api.Package{{Name: "aa", Version: "1", Provides: []string{"?"}}}, api.ErrCtlRelation},
	} {
		refused(t, "a universe", c.u, nil, nil, nil, c.want)
		refused(t, "a universe, and all else", c.u, []api.Held{{Package: pkg("zz 1"), Mark: 7}}, make([]api.Pin, 1025), []string{"?"}, c.want)
	}
}

// P8.2: what is installed and may not be.
func TestWrongHeld(t *testing.T) {
	u := []api.Package{pkg("aa 1"), pkg("aa 1.0"), pkg("bb 1")}
	aa, bb := api.Held{Package: u[0]}, api.Held{Package: u[2], Mark: api.MarkAuto}
	for _, c := range []struct {
		what string
		held []api.Held
	}{
		{"not in the universe", []api.Held{{Package: pkg("aa 2")}}},
		{"not in the universe, equal by order", []api.Held{{Package: pkg("bb 01")}}},
		{"not in the universe, its version is", []api.Held{{Package: pkg("cc 1")}}},
		{"not in the universe, the last", []api.Held{aa, bb, {Package: pkg("cc 1")}}},
		{"nothing", []api.Held{{}}},
		{"a name twice", []api.Held{aa, {Package: u[1]}}},
		{"a package twice", []api.Held{aa, aa}},
		{"a package twice, others between", []api.Held{bb, aa, bb}},
		{"a package twice, with both marks", []api.Held{bb, {Package: u[2]}}},
		{"a mark above", []api.Held{{Package: u[0], Mark: 2}}},
		{"a mark below", []api.Held{{Package: u[0], Mark: -1}}},
		{"a mark far above", []api.Held{aa, {Package: u[2], Mark: 1 << 32}}},
	} {
		refused(t, c.what, u, c.held, nil, nil, api.ErrPolHeld)
		refused(t, c.what+", and too many pins", u, c.held, make([]api.Pin, 1025), nil, api.ErrPolHeld)
		refused(t, c.what+", and a pin and a hold", u, c.held, make([]api.Pin, 1), []string{""}, api.ErrPolHeld)
	}
	refused(t, "held, no universe", nil, []api.Held{aa}, nil, nil, api.ErrPolHeld)
	taken(t, "in any order", u, []api.Held{bb, aa}, nil, nil)
	// Its key counts alone: nothing else of its stanza is looked at.
	odd := api.Held{Package: api.Package{Name: "aa", Version: "1", Size: -1, Provides: []string{"?"}}}
	taken(t, "another stanza", u, []api.Held{odd}, nil, nil)
}

// manyPins tells so many pins, of which the last speaks of aa.
func manyPins(n int) []api.Pin {
	list := make([]api.Pin, n)
	for i := range list {
		list[i] = pin("aa", api.OpEqual, strconv.Itoa(1000+i), i)
	}
	list[n-1] = pin("aa", api.OpAny, "", 77)
	return list
}

// manyHolds tells so many holds, of which the last is aa.
func manyHolds(n int) []string {
	list := make([]string, n)
	for i := range list {
		list[i] = "p" + strconv.Itoa(i)
	}
	list[n-1] = "aa"
	return list
}

// P8.2: MaxClauses pins and holds, and one more.
func TestMany(t *testing.T) {
	u := []api.Package{pkg("aa 1"), pkg("aa 2")}
	held := []api.Held{{Package: u[0]}}
	p, e := policy.New(u, held, manyPins(1024), manyHolds(1024))
	if e != api.OK || p == nil {
		t.Fatalf("P8.2: New with 1024 pins and 1024 holds: %d", e)
	}
	// The last of each counts.
	if n, ok := p.Priority(keyOf("aa 2")); n != 77 || !ok || !p.Held("aa") || p.Less(keyOf("aa 2"), keyOf("aa 1")) {
		t.Errorf("P8.2: of 1024 pins and holds: %d, %t, held %t", n, ok, p.Held("aa"))
	}
	refused(t, "1025 pins", u, held, manyPins(1025), nil, api.ErrPolMany)
	refused(t, "1025 holds", u, held, nil, manyHolds(1025), api.ErrPolMany)
	refused(t, "1025 pins, 1024 holds", u, held, manyPins(1025), manyHolds(1024), api.ErrPolMany)
	refused(t, "1024 pins, 1025 holds", u, held, manyPins(1024), manyHolds(1025), api.ErrPolMany)
	// A hold counts as often as it stands there.
	same := make([]string, 1025)
	for i := range same {
		same[i] = "aa"
	}
	taken(t, "one hold 1024 times", u, held, nil, same[1:])
	refused(t, "one hold 1025 times", u, held, nil, same, api.ErrPolMany)
	// Ahead of a pin and a hold that may not be.
	refused(t, "1025 pins that may not be", u, held, make([]api.Pin, 1025), nil, api.ErrPolMany)
	refused(t, "1025 holds that are no names, and a pin", u, held, make([]api.Pin, 1), make([]string, 1025), api.ErrPolMany)
	refused(t, "1024 pins, the last wrong", u, held, append(manyPins(1023), pin("aa", 6, "1", 0)), nil, api.ErrPolPin)
	refused(t, "1024 holds, the last wrong", u, held, nil, append(manyHolds(1023), "*"), api.ErrPolHold)
}

// P8.2: pins and holds that may not be, at any place.
func TestWrongWords(t *testing.T) {
	u := []api.Package{pkg("aa 1")}
	right, wrong := pin("*", api.OpAny, "", 0), pin("aa", api.OpAny, "1", 0)
	for _, pins := range [][]api.Pin{{wrong}, {right, wrong}, {wrong, right}, {right, {}, right}} {
		refused(t, "a pin", u, nil, pins, nil, api.ErrPolPin)
		refused(t, "a pin and a hold", u, nil, pins, []string{"?"}, api.ErrPolPin)
	}
	for _, name := range []string{"", "a", "*", "aa ", "Aa", "aa (= 1)", "\xff\xff", strings.Repeat("a", 129)} {
		if relation.CheckName(name) != api.ErrRelName {
			t.Fatalf("%q is a name", name)
		}
		for _, holds := range [][]string{{name}, {"aa", name}, {name, "aa"}, {"zz", name, "aa"}} {
			refused(t, "a hold", u, nil, []api.Pin{right}, holds, api.ErrPolHold)
		}
	}
	taken(t, "the longest name held", u, nil, nil, []string{strings.Repeat("a", 128), "zz", "zz"})
}

// P8.2: a universe of MaxUniverse packages, and of one more.
func TestLargeUniverse(t *testing.T) {
	u := make([]api.Package, api.MaxUniverse+1)
	for i := range u {
		u[i] = pkg("p" + strconv.Itoa(100000+i/2) + " " + strconv.Itoa(1+i%2))
	}
	refused(t, "MaxUniverse + 1 packages", u, nil, nil, nil, api.ErrIdxMany)
	u = u[:api.MaxUniverse]
	p, e := policy.New(u, []api.Held{{Package: u[0]}, {Package: u[3]}, {Package: u[4]}}, nil, []string{u[4].Name})
	if p == nil || e != api.OK {
		t.Fatalf("P8.2: MaxUniverse packages: %d", e)
	}
	all := p.All()
	if len(all) != api.MaxUniverse {
		t.Fatalf("P8.4: All of MaxUniverse packages has %d", len(all))
	}
	for i, k := range all {
		want := i ^ 1 // the later one first
		if i == 4 || i == 5 || i == api.MaxUniverse-1 {
			want = i // held; alone
		}
		if k.Name != u[want].Name || k.Version != u[want].Version {
			t.Fatalf("P8.4: All of MaxUniverse packages has %v at %d", k, i)
		}
	}
	if got := tell(p.Upgrades()); got != "p100000 2" {
		t.Errorf("P8.7: Upgrades = %s", got)
	}
}
