package relation_test

import (
	"math/rand"
	"reflect"
	"slices"
	"strings"
	"testing"

	"larder/api"
	"larder/relation"
	"larder/samples"
)

func TestPrintAtom(t *testing.T) { // P2.5
	for a, want := range map[api.Atom]string{
		{Name: "aa"}: "aa",
		{Name: "aa", Op: api.OpLess, Version: "1~"}:    "aa (<< 1~)",
		{Name: "aa", Op: api.OpAtMost, Version: "1"}:   "aa (<= 1)",
		{Name: "aa", Op: api.OpEqual, Version: "1:2"}:  "aa (= 1:2)",
		{Name: "aa", Op: api.OpAtLeast, Version: "1"}:  "aa (>= 1)",
		{Name: "0+", Op: api.OpMore, Version: "1-2.a"}: "0+ (>> 1-2.a)",
	} {
		if s, e := relation.PrintAtom(a); s != want || e != api.OK {
			t.Errorf("PrintAtom(%v) = %q, %d; want %q", a, s, e, want)
		}
	}
	for _, name := range []string{"aa", "a", ""} {
		for op := -1; op <= 6; op++ {
			for _, version := range []string{"", "1", "_", "1) , bb (= 2"} {
				a := api.Atom{Name: name, Op: op, Version: version}
				s, e := relation.PrintAtom(a)
				if e != relation.Check(a) || (e == api.OK) != (s != "") {
					t.Errorf("PrintAtom(%v) = %q, %d", a, s, e)
				}
			}
		}
	}
}

func TestPrintRows(t *testing.T) { // P2.5, example 1
	field := []api.Clause{{{Name: "libc6", Op: api.OpAtLeast, Version: "2.14"}}, {{Name: "a1"}, {Name: "b2", Op: api.OpLess, Version: "1~"}}}
	if s, e := relation.PrintField(field); s != "libc6 (>= 2.14), a1 | b2 (<< 1~)" || e != api.OK {
		t.Errorf("PrintField = %q, %d", s, e)
	}
	if s, e := relation.PrintClause(field[1]); s != "a1 | b2 (<< 1~)" || e != api.OK {
		t.Errorf("PrintClause = %q, %d", s, e)
	}
	if s, e := relation.PrintAtoms(field[1]); s != "a1, b2 (<< 1~)" || e != api.OK {
		t.Errorf("PrintAtoms = %q, %d", s, e)
	}
	if s, e := relation.PrintNames([]string{"aa", "b+", "cc"}); s != "aa, b+, cc" || e != api.OK {
		t.Errorf("PrintNames = %q, %d", s, e)
	}
	s1, e1 := relation.PrintField(nil)
	s2, e2 := relation.PrintAtoms([]api.Atom{})
	s3, e3 := relation.PrintNames(nil)
	if s1+s2+s3 != "" || e1 != api.OK || e2 != api.OK || e3 != api.OK {
		t.Errorf("of nothing: %q %q %q, %d %d %d", s1, s2, s3, e1, e2, e3)
	}
}

func TestPrintErrors(t *testing.T) { // P2.5: the first error, from the left
	good, bad := api.Atom{Name: "aa"}, api.Atom{Name: "a"}
	noOp, noVersion := api.Atom{Name: "aa", Op: 9}, api.Atom{Name: "aa", Op: api.OpMore}
	for _, c := range []struct {
		clause api.Clause
		want   api.Errno
	}{
		{nil, api.ErrRelForm},
		{api.Clause{}, api.ErrRelForm},
		{api.Clause{good, bad, noOp}, api.ErrRelName},
		{api.Clause{noOp, bad}, api.ErrRelOp},
		{api.Clause{good, noVersion, noOp}, api.ErrRelVersion},
		{make(api.Clause, api.MaxChoices+1), api.ErrRelMany},
	} {
		if s, e := relation.PrintClause(c.clause); s != "" || e != c.want {
			t.Errorf("PrintClause(%.3v) = %q, %d; want %d", c.clause, s, e, c.want)
		}
		for _, ahead := range [][]api.Clause{nil, {{good}}} {
			field := append(slices.Clone(ahead), c.clause, api.Clause{bad}, nil)
			if s, e := relation.PrintField(field); s != "" || e != c.want {
				t.Errorf("PrintField = %q, %d; want %d", s, e, c.want)
			}
		}
	}
	if s, e := relation.PrintAtoms([]api.Atom{good, noVersion, bad}); s != "" || e != api.ErrRelVersion {
		t.Errorf("PrintAtoms = %q, %d", s, e)
	}
	for _, names := range [][]string{{""}, {"aa", "a"}, {"aa", " bb"}, {"aa, bb"}, {"aa", strings.Repeat("b", 129)}} {
		if s, e := relation.PrintNames(names); s != "" || e != api.ErrRelName {
			t.Errorf("PrintNames(%.20q) = %q, %d", names, s, e)
		}
	}
}

func TestPrintHowMany(t *testing.T) { // P2.5: MaxClauses and MaxChoices, and one more
	atoms := slices.Repeat([]api.Atom{{Name: "aa"}}, api.MaxClauses+1)
	if s, e := relation.PrintClause(atoms[:api.MaxChoices]); s != row("aa", " | ", api.MaxChoices) || e != api.OK {
		t.Errorf("PrintClause of MaxChoices: %d", e)
	}
	if s, e := relation.PrintClause(atoms[:api.MaxChoices+1]); s != "" || e != api.ErrRelMany {
		t.Errorf("PrintClause of MaxChoices + 1: %d", e)
	}
	clauses := slices.Repeat([]api.Clause{atoms[:1]}, api.MaxClauses+1)
	names := slices.Repeat([]string{"aa"}, api.MaxClauses+1)
	full := row("aa", ", ", api.MaxClauses)
	print3 := func(n int) ([3]string, [3]api.Errno) {
		s1, e1 := relation.PrintField(clauses[:n])
		s2, e2 := relation.PrintAtoms(atoms[:n])
		s3, e3 := relation.PrintNames(names[:n])
		return [3]string{s1, s2, s3}, [3]api.Errno{e1, e2, e3}
	}
	if s, e := print3(api.MaxClauses); s != [3]string{full, full, full} || e != [3]api.Errno{} {
		t.Errorf("of MaxClauses: %v", e)
	}
	clauses[0], atoms[0], names[0] = nil, api.Atom{}, "" // too many is told first
	if s, e := print3(api.MaxClauses + 1); s != [3]string{} || e != [3]api.Errno{api.ErrRelMany, api.ErrRelMany, api.ErrRelMany} {
		t.Errorf("of MaxClauses + 1: %v", e)
	}
}

// longField tells a field whose printed text has so many bytes: clauses of as many atoms as may be.
func longField(size int) []api.Clause {
	const name = 61 // 64 bytes an atom with what stands behind it: in all a little less than MaxInput
	choices := slices.Repeat([]api.Atom{{Name: strings.Repeat("a", name)}}, api.MaxChoices)
	field := make([]api.Clause, api.MaxClauses)
	bytes := -2
	for i := range field {
		field[i] = slices.Clone(choices)
		bytes += api.MaxChoices*(name+3) - 3 + 2
	}
	for i := 0; bytes < size; i++ {
		field[i/api.MaxChoices][i%api.MaxChoices].Name += "b"
		bytes++
	}
	return field
}

func TestPrintLong(t *testing.T) { // P2.5: MaxInput bytes and one more
	s, e := relation.PrintField(longField(api.MaxInput))
	if len(s) != api.MaxInput || e != api.OK {
		t.Fatalf("PrintField = %d bytes, %d", len(s), e)
	}
	if l, e := relation.ParseField(s); e != api.OK || !reflect.DeepEqual(l, longField(api.MaxInput)) {
		t.Errorf("read back: %d", e)
	}
	long := longField(api.MaxInput + 1)
	if s, e := relation.PrintField(long); s != "" || e != api.ErrLong {
		t.Errorf("PrintField = %d bytes, %d", len(s), e)
	}
	// An atom's error counts ahead of the length, even if it stands at the end.
	last := long[len(long)-1]
	last[len(last)-1].Version = "1"
	if s, e := relation.PrintField(long); s != "" || e != api.ErrRelVersion {
		t.Errorf("PrintField = %d bytes, %d", len(s), e)
	}
}

func TestParsedButTooLongToPrint(t *testing.T) { // P2.6: read without blanks, printed with them
	clause := row(strings.Repeat("a", 62), "|", api.MaxChoices)
	l, e := relation.ParseField(row(clause, ",", api.MaxClauses))
	if e != api.OK || len(l) != api.MaxClauses {
		t.Fatalf("ParseField: %d", e)
	}
	if s, e := relation.PrintField(l); s != "" || e != api.ErrLong {
		t.Errorf("PrintField = %d bytes, %d", len(s), e)
	}
}

// thereAndBack holds P2.6 of a text, and of what its printing reads as.
func thereAndBack[T any](t *testing.T, s string, parse func(string) (T, api.Errno), print func(T) (string, api.Errno)) {
	x, e := parse(s)
	if e != api.OK {
		return
	}
	printed, e := print(x)
	if e != api.OK {
		t.Errorf("of %q: %v is not printed: %d", s, x, e)
		return
	}
	back, e := parse(printed)
	again, e2 := print(back)
	if e != api.OK || e2 != api.OK || !same(back, x) || again != printed {
		t.Errorf("of %q: %v, %q, %v, %q, %d, %d", s, x, printed, back, again, e, e2)
	}
}

func TestTextsThereAndBack(t *testing.T) { // P2.6
	texts := samples.Texts([]string{"aa", " ", "(", "=", "<<", "1", ")", "|", ","}, 5)
	texts = append(texts, samples.Texts([]string{" ", "aa", "bb(>=1)", "c+ ( << 2~-1)", "|", ",", "\n"}, 5)...)
	for _, s := range texts {
		thereAndBack(t, s, relation.ParseAtom, relation.PrintAtom)
		thereAndBack(t, s, relation.ParseClause, relation.PrintClause)
		thereAndBack(t, s, relation.ParseField, relation.PrintField)
		thereAndBack(t, s, relation.ParseAtoms, relation.PrintAtoms)
		thereAndBack(t, s, relation.ParseNames, relation.PrintNames)
	}
}

// wellPrinted holds P2.6 of what is made by hand: where it prints, it reads back.
func wellPrinted[T any](t *testing.T, x T, parse func(string) (T, api.Errno), print func(T) (string, api.Errno)) bool {
	s, e := print(x)
	if e != api.OK {
		return false
	}
	if back, e := parse(s); e != api.OK || !same(back, x) {
		t.Errorf("%v is printed as %q, which reads as %v, %d", x, s, back, e)
	}
	return true
}

func TestThingsThereAndBack(t *testing.T) { // P2.6
	r := rand.New(rand.NewSource(1))
	pick := func(l ...string) string { return l[r.Intn(len(l))] }
	atom := func() api.Atom {
		a := api.Atom{Name: pick("aa", "b+-.", "00", "libc6", "aa", "bb", "a", "", "A1", "a a", "aa ", "aa|bb", "aa(=1)", "aa,bb")}
		if r.Intn(2) == 0 {
			a.Op = r.Intn(8) - 1
			a.Version = pick("1", "1:2-3", "0~", "1.0", "2+b", "", "1 ", "1)", "1,2", "|", "a")
		}
		return a
	}
	var went [5]int
	count := func(i int, ok bool) {
		if ok {
			went[i]++
		}
	}
	for range 20000 {
		clause := api.Clause{}
		for range r.Intn(4) {
			clause = append(clause, atom())
		}
		field, names := []api.Clause{clause}, []string{}
		for range r.Intn(2) {
			field = append(field, api.Clause{atom()})
		}
		for _, a := range clause {
			names = append(names, a.Name)
		}
		count(0, wellPrinted(t, atom(), relation.ParseAtom, relation.PrintAtom))
		count(1, wellPrinted(t, clause, relation.ParseClause, relation.PrintClause))
		count(2, wellPrinted(t, field, relation.ParseField, relation.PrintField))
		count(3, wellPrinted(t, []api.Atom(clause), relation.ParseAtoms, relation.PrintAtoms))
		count(4, wellPrinted(t, names, relation.ParseNames, relation.PrintNames))
	}
	if slices.Min(went[:]) < 100 {
		t.Errorf("too few things printed: %v", went)
	}
}

func TestPrintLeavesAsItWas(t *testing.T) { // P2.8
	room := []api.Clause{{{Name: "aa"}, {Name: "bb"}, {Name: "spare"}}, {{Name: "cc"}}, {{Name: "spare"}}}
	want := []api.Clause{{{Name: "aa"}, {Name: "bb"}, {Name: "spare"}}, {{Name: "cc"}}, {{Name: "spare"}}}
	short := room[0]
	room[0] = short[:2]
	field, e := relation.PrintField(room[:2])
	clause, e2 := relation.PrintClause(short[:2])
	atoms, e3 := relation.PrintAtoms(short[:2])
	room[0] = short
	if !reflect.DeepEqual(room, want) || e+e2+e3 != api.OK {
		t.Errorf("changed: %v", room)
	}
	names := []string{"aa", "bb", "spare"}
	list, e := relation.PrintNames(names[:2])
	if !slices.Equal(names, []string{"aa", "bb", "spare"}) || e != api.OK {
		t.Errorf("changed: %v", names)
	}
	// What is written over later does not reach the texts.
	short[0].Name, room[1][0].Name, names[0] = "xx", "xx", "xx"
	if field != "aa | bb, cc" || clause != "aa | bb" || atoms != "aa, bb" || list != "aa, bb" {
		t.Errorf("%q, %q, %q, %q", field, clause, atoms, list)
	}
}
