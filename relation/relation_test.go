package relation_test

import (
	"slices"
	"strings"
	"testing"

	"larder/api"
	"larder/debver"
	"larder/relation"
)

const nameBytes = "abcdefghijklmnopqrstuvwxyz0123456789"

func TestCheckNameLength(t *testing.T) { // P2.1: 1, 2, 128, 129 bytes
	for n, want := range map[int]api.Errno{
		0: api.ErrRelName, 1: api.ErrRelName, 2: api.OK, 3: api.OK,
		127: api.OK, 128: api.OK, 129: api.ErrRelName, 1 << 20: api.ErrRelName,
	} {
		if e := relation.CheckName(strings.Repeat("a", n)); e != want {
			t.Errorf("CheckName of %d bytes: %d, want %d", n, e, want)
		}
	}
}

func TestCheckNameEachByte(t *testing.T) { // P2.1: which bytes may stand where
	for i := range 256 {
		b := string([]byte{byte(i)})
		for _, c := range []struct{ name, good string }{
			{b + "a", nameBytes},
			{"a" + b, nameBytes + "+-."},
			{"a" + b + "a", nameBytes + "+-."},
			{strings.Repeat("a", 127) + b, nameBytes + "+-."},
		} {
			want := api.ErrRelName
			if strings.Contains(c.good, b) {
				want = api.OK
			}
			if e := relation.CheckName(c.name); e != want {
				t.Errorf("CheckName(%q) = %d, want %d", c.name, e, want)
			}
		}
	}
}

// badVersions are texts that debver does not take, one for each of its errors.
var badVersions = []string{"", "a:1", "1-", "a1", "1_", "1 ", " 1", strings.Repeat("1", 257)}

func TestCheck(t *testing.T) { // P2.1; of several errors the first
	long := strings.Repeat("1", 256)
	for _, c := range []struct {
		atom api.Atom
		want api.Errno
	}{
		{api.Atom{}, api.ErrRelName},
		{api.Atom{Name: "a", Op: 6, Version: "_"}, api.ErrRelName},
		{api.Atom{Name: "Aa", Version: "1"}, api.ErrRelName},
		{api.Atom{Name: " aa"}, api.ErrRelName},
		{api.Atom{Name: "aa"}, api.OK},
		{api.Atom{Name: "aa", Version: "1"}, api.ErrRelVersion},
		{api.Atom{Name: "aa", Version: " "}, api.ErrRelVersion},
		{api.Atom{Name: "aa", Op: 6, Version: "1"}, api.ErrRelOp},
		{api.Atom{Name: "aa", Op: 6, Version: "_"}, api.ErrRelOp},
		{api.Atom{Name: "aa", Op: -1}, api.ErrRelOp},
		{api.Atom{Name: "aa", Op: -1 << 63}, api.ErrRelOp},
		{api.Atom{Name: "aa", Op: 1<<63 - 1}, api.ErrRelOp},
	} {
		if e := relation.Check(c.atom); e != c.want {
			t.Errorf("Check(%v) = %d, want %d", c.atom, e, c.want)
		}
	}
	for op := api.OpLess; op <= api.OpMore; op++ {
		for _, version := range []string{"1", "1:2-3", "0", long} {
			if e := relation.Check(api.Atom{Name: "aa", Op: op, Version: version}); e != api.OK {
				t.Errorf("Check(aa %d %.20q) = %d", op, version, e)
			}
		}
		for _, version := range badVersions {
			if e := relation.Check(api.Atom{Name: "aa", Op: op, Version: version}); e != api.ErrRelVersion {
				t.Errorf("Check(aa %d %.20q) = %d, want %d", op, version, e, api.ErrRelVersion)
			}
		}
	}
}

func TestFits(t *testing.T) { // P2.7, example 3
	versions := []string{"1~", "1", "1-0", "1.0", "1.00", "0:1.0", "1.0-1", "9", "10", "1:0"}
	within := map[int]func(int) bool{
		api.OpLess:    func(order int) bool { return order < 0 },
		api.OpAtMost:  func(order int) bool { return order <= 0 },
		api.OpEqual:   func(order int) bool { return order == 0 },
		api.OpAtLeast: func(order int) bool { return order >= 0 },
		api.OpMore:    func(order int) bool { return order > 0 },
	}
	for _, version := range versions {
		for _, bound := range versions {
			order, _ := debver.Compare(version, bound)
			for op, want := range within {
				// The name is no part of the question, and nothing is checked.
				for _, name := range []string{"aa", "", "!"} {
					a := api.Atom{Name: name, Op: op, Version: bound}
					if got := relation.Fits(a, version); got != want(order) {
						t.Errorf("Fits(%v, %q) = %v", a, version, got)
					}
				}
			}
		}
	}
	if !relation.Fits(api.Atom{Name: "aa", Op: api.OpEqual, Version: "1.0"}, "1.00") || !relation.Fits(api.Atom{Name: "aa", Op: api.OpLess, Version: "1"}, "1~") {
		t.Error("Fits: example 3")
	}
}

func TestFitsOddVersions(t *testing.T) { // P2.7: what debver does not take, and operators that are none
	for _, bad := range append(slices.Clone(badVersions), "!", "\x00") {
		for op := -2; op <= 8; op++ {
			wantAny := op == api.OpAny
			for _, c := range [][2]string{{bad, "1"}, {"1", bad}, {bad, bad}} {
				if got := relation.Fits(api.Atom{Name: "aa", Op: op, Version: c[0]}, c[1]); got != wantAny {
					t.Errorf("Fits(aa %d %.20q, %.20q) = %v", op, c[0], c[1], got)
				}
			}
		}
	}
	for _, op := range []int{-1 << 63, -1, 6, 7, 1<<63 - 1} {
		if relation.Fits(api.Atom{Name: "aa", Op: op, Version: "1"}, "1") {
			t.Errorf("Fits takes the operator %d", op)
		}
	}
}

func TestMeets(t *testing.T) { // P2.7, example 4
	p := api.Package{Name: "exim", Version: "4", Provides: []string{"smtp", "mail", "exim4"}}
	for _, c := range []struct {
		atom api.Atom
		want bool
	}{
		{api.Atom{Name: "exim"}, true},
		{api.Atom{Name: "mail"}, true},
		{api.Atom{Name: "smtp"}, true},
		{api.Atom{Name: "exim4"}, true},
		{api.Atom{Name: "mai"}, false},
		{api.Atom{Name: "Exim"}, false},
		{api.Atom{Name: ""}, false},
		{api.Atom{Name: "mail", Op: api.OpAtLeast, Version: "1"}, false},
		{api.Atom{Name: "mail", Op: api.OpEqual, Version: "4"}, false},
		{api.Atom{Name: "mail", Op: 6}, false},
		{api.Atom{Name: "mail", Version: "9"}, true}, // nothing is checked
		{api.Atom{Name: "exim", Version: "9"}, true},
		{api.Atom{Name: "exim", Op: api.OpEqual, Version: "4"}, true},
		{api.Atom{Name: "exim", Op: api.OpEqual, Version: "04"}, true},
		{api.Atom{Name: "exim", Op: api.OpEqual, Version: "5"}, false},
		{api.Atom{Name: "exim", Op: api.OpLess, Version: "5"}, true},
		{api.Atom{Name: "exim", Op: api.OpMore, Version: "4"}, false},
		{api.Atom{Name: "exim", Op: -1, Version: "4"}, false},
		{api.Atom{Name: "other", Op: api.OpEqual, Version: "4"}, false},
	} {
		if got := relation.Meets(c.atom, p); got != c.want {
			t.Errorf("Meets(%v) = %v", c.atom, got)
		}
	}
}

func TestMeetsOwnName(t *testing.T) { // P2.7: a package that provides its own name meets no constraint by it; odd packages
	p := api.Package{Name: "aa", Version: "1", Provides: []string{"aa"}}
	if relation.Meets(api.Atom{Name: "aa", Op: api.OpAtLeast, Version: "2"}, p) {
		t.Error("a constraint is met by a Provides")
	}
	if !relation.Meets(api.Atom{Name: "aa"}, api.Package{Name: "aa", Version: "?"}) {
		t.Error("an atom without a constraint looks at the version")
	}
	if relation.Meets(api.Atom{Name: "aa", Op: api.OpEqual, Version: "?"}, api.Package{Name: "aa", Version: "?"}) {
		t.Error("what is no version is held against itself")
	}
	if !relation.Meets(api.Atom{}, api.Package{}) || !relation.Meets(api.Atom{}, api.Package{Name: "aa", Provides: []string{""}}) || relation.Meets(api.Atom{}, api.Package{Name: "aa"}) {
		t.Error("Meets of empty names")
	}
}

func TestFirst(t *testing.T) { // P2.7, example 4
	p := api.Package{Name: "exim", Version: "4", Provides: []string{"mail"}}
	other, mail, exim := api.Atom{Name: "aa"}, api.Atom{Name: "mail"}, api.Atom{Name: "exim", Op: api.OpEqual, Version: "4"}
	later := api.Atom{Name: "exim", Op: api.OpMore, Version: "4"}
	for _, c := range []struct {
		clause api.Clause
		place  int
		ok     bool
	}{
		{nil, 0, false},
		{api.Clause{}, 0, false},
		{api.Clause{other}, 0, false},
		{api.Clause{other, later}, 0, false},
		{api.Clause{mail}, 0, true},
		{api.Clause{other, mail}, 1, true},
		{api.Clause{mail, exim, mail}, 0, true},
		{api.Clause{other, later, exim, mail}, 2, true},
		{append(make(api.Clause, 1000), exim), 1000, true},
	} {
		if place, ok := relation.First(c.clause, p); place != c.place || ok != c.ok {
			t.Errorf("First(%v) = %d, %v", c.clause, place, ok)
		}
	}
}

func TestMeetsLeavesAsItWas(t *testing.T) { // P2.8
	provides := []string{"bb", "cc", "spare"}
	p := api.Package{Name: "aa", Version: "1", Provides: provides[:2]}
	clause := api.Clause{{Name: "dd"}, {Name: "cc"}, {Name: "spare"}}
	if place, ok := relation.First(clause[:2], p); place != 1 || !ok {
		t.Errorf("First = %d, %v", place, ok)
	}
	if relation.Meets(api.Atom{Name: "spare"}, p) {
		t.Error("Meets looks beyond the end of Provides")
	}
	if !slices.Equal(provides, []string{"bb", "cc", "spare"}) || !slices.Equal(clause, api.Clause{{Name: "dd"}, {Name: "cc"}, {Name: "spare"}}) {
		t.Errorf("changed: %v, %v", provides, clause)
	}
}
