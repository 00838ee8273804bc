package relation_test

import (
	"reflect"
	"regexp"
	"slices"
	"strings"
	"testing"

	"larder/api"
	"larder/debver"
	"larder/relation"
	"larder/samples"
)

// row tells a text of n pieces.
func row(piece, between string, n int) string { return strings.Repeat(piece+between, n-1) + piece }

var (
	nameForm       = regexp.MustCompile(`^[a-z0-9][a-z0-9+.-]{1,127}$`)
	atomForm       = regexp.MustCompile(`(?s)^[ \t\n]*([^ \t\n(]*)(.*)$`)
	constraintForm = regexp.MustCompile(`(?s)^[ \t\n]*\([ \t\n]*([<=>]*)[ \t\n]*([^()]*?)[ \t\n]*\)[ \t\n]*$`)
	blankForm      = regexp.MustCompile(`^[ \t\n]*$`)
	nameRowForm    = regexp.MustCompile(`^[ \t\n]*([a-z0-9][a-z0-9+.-]{1,127})[ \t\n]*$`)
	oracleOps      = map[string]int{"<<": api.OpLess, "<=": api.OpAtMost, "=": api.OpEqual, ">=": api.OpAtLeast, ">>": api.OpMore}
)

// The oracles read by regular expressions what P2.2 to P2.4 say in words.

func oracleAtom(s string) (api.Atom, api.Errno) {
	parts := atomForm.FindStringSubmatch(s)
	name, rest := parts[1], parts[2]
	if !nameForm.MatchString(name) {
		return api.Atom{}, api.ErrRelName
	}
	if blankForm.MatchString(rest) {
		return api.Atom{Name: name}, api.OK
	}
	within := constraintForm.FindStringSubmatch(rest)
	if within == nil {
		return api.Atom{}, api.ErrRelForm
	}
	op, ok := oracleOps[within[1]]
	if !ok {
		return api.Atom{}, api.ErrRelOp
	}
	if _, e := debver.Parse(within[2]); e != api.OK {
		return api.Atom{}, api.ErrRelVersion
	}
	return api.Atom{Name: name, Op: op, Version: within[2]}, api.OK
}

func oracleName(s string) (string, api.Errno) {
	if m := nameRowForm.FindStringSubmatch(s); m != nil {
		return m[1], api.OK
	}
	return "", api.ErrRelName
}

func oracleRow[T any](s, between string, piece func(string) (T, api.Errno)) ([]T, api.Errno) {
	var l []T
	for _, text := range strings.Split(s, between) {
		x, e := piece(text)
		if e != api.OK {
			return nil, e
		}
		l = append(l, x)
	}
	return l, api.OK
}

func oracleClause(s string) (api.Clause, api.Errno) { return oracleRow(s, "|", oracleAtom) }

func oracleField[T any](s string, piece func(string) (T, api.Errno)) ([]T, api.Errno) {
	if blankForm.MatchString(s) {
		return nil, api.OK
	}
	return oracleRow(s, ",", piece)
}

// same tells whether two answers are one, nil and empty lists being alike.
func same(a, b any) bool {
	x, y := reflect.ValueOf(a), reflect.ValueOf(b)
	if x.Kind() == reflect.Slice && x.Len() == 0 && y.Len() == 0 {
		return true
	}
	return reflect.DeepEqual(a, b)
}

func against[T any](t *testing.T, what, s string, got T, e api.Errno, want T, wantE api.Errno) {
	if e != wantE || !same(got, want) {
		t.Errorf("%s(%.60q) = %v, %d; want %v, %d", what, s, got, e, want, wantE)
	}
}

func holdAgainstOracles(t *testing.T, s string) {
	atom, e := relation.ParseAtom(s)
	wantAtom, wantE := oracleAtom(s)
	against(t, "ParseAtom", s, atom, e, wantAtom, wantE)
	clause, e := relation.ParseClause(s)
	wantClause, wantE := oracleClause(s)
	against(t, "ParseClause", s, clause, e, wantClause, wantE)
	field, e := relation.ParseField(s)
	wantField, wantE := oracleField(s, oracleClause)
	against(t, "ParseField", s, field, e, wantField, wantE)
	atoms, e := relation.ParseAtoms(s)
	wantAtoms, wantE := oracleField(s, oracleAtom)
	against(t, "ParseAtoms", s, atoms, e, wantAtoms, wantE)
	names, e := relation.ParseNames(s)
	wantNames, wantE := oracleField(s, oracleName)
	against(t, "ParseNames", s, names, e, wantNames, wantE)
}

func TestParseSmallTexts(t *testing.T) { // P2.2, P2.3, P2.4
	for _, s := range samples.Texts([]string{"a", " ", "(", ")", "=", "<", ">", "1", "|", ",", "\xff"}, 4) {
		holdAgainstOracles(t, s)
		holdAgainstOracles(t, "aa"+s)
		holdAgainstOracles(t, "aa("+s+")")
	}
	for _, s := range samples.Texts([]string{"aa", "\n", "(", ")", ">=", "1~", "|", ","}, 5) {
		holdAgainstOracles(t, s)
	}
}

func TestParseBlanksEverywhere(t *testing.T) { // P2.2, P2.3: each kind of blank in every place where it may stand
	want := []api.Clause{{{Name: "aa", Op: api.OpAtMost, Version: "1-2"}, {Name: "bb"}}, {{Name: "cc"}}}
	parts := []string{"aa", "(", "<=", "1-2", ")", "|", "bb", ",", "cc"}
	for _, blank := range []string{"", " ", "\t", "\n", " \t\n\n "} {
		for i := range len(parts) + 1 {
			s := strings.Join(parts[:i], "") + blank + strings.Join(parts[i:], "")
			l, e := relation.ParseField(s)
			against(t, "ParseField", s, l, e, want, api.OK)
		}
		s := blank + strings.Join(parts, blank) + blank
		l, e := relation.ParseField(s)
		against(t, "ParseField", s, l, e, want, api.OK)
		names, e := relation.ParseNames(blank + "aa" + blank + "," + blank + "bb" + blank)
		against(t, "ParseNames", blank, names, e, []string{"aa", "bb"}, api.OK)
	}
}

func TestParseOtherBlanks(t *testing.T) { // P2.2, P2.4: no other byte is a blank, and none stands within a part
	for i := range 256 {
		b := string([]byte{byte(i)})
		blank := b == " " || b == "\t" || b == "\n"
		for _, s := range []string{b + "aa(=1)", "aa" + b + "(=1)", "aa(" + b + "=1)", "aa(=" + b + "1)", "aa(=1" + b + ")", "aa(=1)" + b} {
			got, e := relation.ParseAtom(s)
			want, wantE := oracleAtom(s)
			against(t, "ParseAtom", s, got, e, want, wantE)
			if blank && e != api.OK {
				t.Errorf("ParseAtom(%q) = %d", s, e)
			}
		}
		for _, s := range []string{b + "aa", "aa" + b, "a" + b + "a", "aa," + b} {
			got, e := relation.ParseNames(s)
			want, wantE := oracleField(s, oracleName)
			against(t, "ParseNames", s, got, e, want, wantE)
		}
	}
	for _, s := range []string{"a a", "aa (> = 1)", "aa (= 1 2)", "a\na (= 1)"} {
		if a, e := relation.ParseAtom(s); e == api.OK || a != (api.Atom{}) {
			t.Errorf("ParseAtom(%q) = %v, %d", s, a, e)
		}
	}
}

func TestParseAtomErrors(t *testing.T) { // P2.2, example 2; of several errors the first
	for _, c := range []struct {
		want  api.Errno
		texts []string
	}{
		{api.OK, []string{"aa", "aa(=1)", "aa ( = 1 )", "0+.-", strings.Repeat("a", 128), "aa (= 1:2-3)", "aa (=" + strings.Repeat("1", 256) + ")"}},
		{api.ErrRelName, []string{"", " ", "a", "a (", "Aa", "-a", "(= 1)", "()", "a_b (", "aa|bb", "aa,bb", "aa)", "aa=1", "A (< _)", strings.Repeat("a", 129), "aa[amd64]", "aa:any", "é", "${misc:Depends}"}},
		{api.ErrRelForm, []string{"aa bb", "aa (= 1", "aa = 1)", "aa (", "aa )", "aa ((= 1))", "aa (= 1) x", "aa (= 1)(= 1)", "aa (= 1))", "aa (<(1)", "aa (= 1) [amd64]", "aa | bb", "aa <!nocheck>", "aa )(", "aa (< _"}},
		{api.ErrRelOp, []string{"aa ()", "aa ( )", "aa (1)", "aa (< 1)", "aa (> 1)", "aa (== 1)", "aa (=< 1)", "aa (=> 1)", "aa (<> 1)", "aa (>>> 1)", "aa (<<= 1)", "aa (! 1)", "aa (< _)"}},
		{api.ErrRelVersion, []string{"aa (=)", "aa (= )", "aa (= 1 2)", "aa (=1_)", "aa (= a)", "aa (= = 1)", "aa (>= 1:)", "aa (= 1|2)", "aa (=" + strings.Repeat("1", 257) + ")"}},
	} {
		for _, s := range c.texts {
			a, e := relation.ParseAtom(s)
			if e != c.want || e != api.OK && a != (api.Atom{}) {
				t.Errorf("ParseAtom(%.60q) = %v, %d; want %d", s, a, e, c.want)
			}
		}
	}
}

func TestParseOperators(t *testing.T) { // P2.2: the five, and nothing else of these bytes
	for _, sign := range samples.Texts([]string{"<", "=", ">"}, 3) {
		want, ok := oracleOps[sign]
		a, e := relation.ParseAtom("aa (" + sign + " 1)")
		if ok && (e != api.OK || a != (api.Atom{Name: "aa", Op: want, Version: "1"})) || !ok && e != api.ErrRelOp {
			t.Errorf("the operator %q: %v, %d", sign, a, e)
		}
	}
}

func TestParseFieldExamples(t *testing.T) { // P2.3, example 1
	want := []api.Clause{{{Name: "libc6", Op: api.OpAtLeast, Version: "2.14"}}, {{Name: "a1"}, {Name: "b2", Op: api.OpLess, Version: "1~"}}}
	l, e := relation.ParseField("libc6 (>= 2.14), a1 | b2 (<<1~)")
	against(t, "ParseField", "example 1", l, e, want, api.OK)
	for s, want := range map[string]api.Errno{
		"": api.OK, " ": api.OK, "\t\n ": api.OK,
		"aa,": api.ErrRelName, ",aa": api.ErrRelName, "aa, ,bb": api.ErrRelName, ",": api.ErrRelName,
		"aa | ": api.ErrRelName, "| aa": api.ErrRelName, "aa || bb": api.ErrRelName,
		"aa bb, (": api.ErrRelForm, "aa, bb (!), cc (": api.ErrRelOp, "aa | bb (= _) | c, dd (": api.ErrRelVersion,
		"aa (= 1,2)": api.ErrRelForm, "aa (= 1|2)": api.ErrRelForm, "\r": api.ErrRelName, "\v": api.ErrRelName,
	} {
		if l, e := relation.ParseField(s); e != want || len(l) != 0 {
			t.Errorf("ParseField(%q) = %v, %d; want %d", s, l, e, want)
		}
	}
}

func TestParseClauseEmpty(t *testing.T) { // P2.3: a clause has one atom or more
	for _, s := range []string{"", " ", "|", "aa|", "|aa"} {
		if c, e := relation.ParseClause(s); e != api.ErrRelName || len(c) != 0 {
			t.Errorf("ParseClause(%q) = %v, %d", s, c, e)
		}
	}
	if c, e := relation.ParseClause("aa, bb"); e != api.ErrRelName || len(c) != 0 {
		t.Errorf("ParseClause of a field = %v, %d", c, e)
	}
}

func TestParseHowMany(t *testing.T) { // P2.3, P2.4: MaxClauses and MaxChoices, and one more
	if c, e := relation.ParseClause(row("aa", "|", api.MaxChoices)); e != api.OK || len(c) != api.MaxChoices {
		t.Errorf("%d atoms, %d", len(c), e)
	}
	for _, s := range []string{row("aa", "|", api.MaxChoices+1), row("", "|", api.MaxChoices+1), "_" + row("", "|", api.MaxChoices+1), row("", "|", 1<<20)} {
		if c, e := relation.ParseClause(s); e != api.ErrRelMany || len(c) != 0 {
			t.Errorf("ParseClause(%.20q) = %d atoms, %d", s, len(c), e)
		}
	}
	full := row("aa", ",", api.MaxClauses)
	field, e := relation.ParseField(full)
	if e != api.OK || len(field) != api.MaxClauses {
		t.Errorf("%d clauses, %d", len(field), e)
	}
	atoms, e := relation.ParseAtoms(full)
	if e != api.OK || len(atoms) != api.MaxClauses {
		t.Errorf("%d atoms, %d", len(atoms), e)
	}
	names, e := relation.ParseNames(full)
	if e != api.OK || len(names) != api.MaxClauses {
		t.Errorf("%d names, %d", len(names), e)
	}
	for _, s := range []string{full + ",aa", row("", ",", api.MaxClauses+1), "_ (" + row("", ",", api.MaxClauses+1), row("aa|", ",", api.MaxClauses+1)} {
		field, e := relation.ParseField(s)
		against(t, "ParseField", s, field, e, nil, api.ErrRelMany)
		atoms, e := relation.ParseAtoms(s)
		against(t, "ParseAtoms", s, atoms, e, nil, api.ErrRelMany)
		names, e := relation.ParseNames(s)
		against(t, "ParseNames", s, names, e, nil, api.ErrRelMany)
	}
}

func TestParseFieldManyChoices(t *testing.T) { // P2.3: a clause's own bound, told in its turn
	most, over := row("aa", "|", api.MaxChoices), row("", "|", api.MaxChoices+1)
	field, e := relation.ParseField(most + "," + most)
	if e != api.OK || len(field) != 2 || len(field[1]) != api.MaxChoices {
		t.Errorf("two clauses of MaxChoices: %d", e)
	}
	for s, want := range map[string]api.Errno{"aa," + over: api.ErrRelMany, over + ",a": api.ErrRelMany, "a," + over: api.ErrRelName} {
		if l, e := relation.ParseField(s); e != want || len(l) != 0 {
			t.Errorf("ParseField(%.20q) = %d, want %d", s, e, want)
		}
	}
}

func TestParseAtomsAndNames(t *testing.T) { // P2.4
	atoms, e := relation.ParseAtoms("aa, bb (<< 2) ,\ncc")
	against(t, "ParseAtoms", "a row", atoms, e, []api.Atom{{Name: "aa"}, {Name: "bb", Op: api.OpLess, Version: "2"}, {Name: "cc"}}, api.OK)
	for s, want := range map[string]api.Errno{"aa | bb": api.ErrRelForm, "aa|bb": api.ErrRelName, "aa,": api.ErrRelName, "aa, bb (= _), c": api.ErrRelVersion, "": api.OK, "\n": api.OK} {
		if l, e := relation.ParseAtoms(s); e != want || len(l) != 0 {
			t.Errorf("ParseAtoms(%q) = %v, %d; want %d", s, l, e, want)
		}
	}
	names, e := relation.ParseNames(" aa ,b+\n,\tc-.")
	against(t, "ParseNames", "a row", names, e, []string{"aa", "b+", "c-."}, api.OK)
	for s, want := range map[string]api.Errno{"aa (= 1)": api.ErrRelName, "aa bb": api.ErrRelName, "aa|bb": api.ErrRelName, "aa,,bb": api.ErrRelName, "aa, B": api.ErrRelName, "aa(": api.ErrRelName, "": api.OK, " \t\n": api.OK} {
		if l, e := relation.ParseNames(s); e != want || len(l) != 0 {
			t.Errorf("ParseNames(%q) = %v, %d; want %d", s, l, e, want)
		}
	}
}

func TestParseLong(t *testing.T) { // P2.2, P2.3, P2.4: MaxInput bytes and one more
	fill := strings.Repeat(" ", api.MaxInput-len("aa(=1)"))
	most := "aa(=" + fill + "1)"
	a, e := relation.ParseAtom(most)
	against(t, "ParseAtom", "MaxInput bytes", a, e, api.Atom{Name: "aa", Op: api.OpEqual, Version: "1"}, api.OK)
	c, e := relation.ParseClause(most)
	against(t, "ParseClause", "MaxInput bytes", c, e, api.Clause{a}, api.OK)
	field, e := relation.ParseField(most)
	against(t, "ParseField", "MaxInput bytes", field, e, []api.Clause{{a}}, api.OK)
	atoms, e := relation.ParseAtoms(most)
	against(t, "ParseAtoms", "MaxInput bytes", atoms, e, []api.Atom{a}, api.OK)
	names, e := relation.ParseNames(fill + "aa    ")
	against(t, "ParseNames", "MaxInput bytes", names, e, []string{"aa"}, api.OK)
	blank, e := relation.ParseField(fill + "      ")
	against(t, "ParseField", "MaxInput blanks", blank, e, nil, api.OK)
	for _, s := range []string{most + " ", fill + "       ", strings.Repeat(",", api.MaxInput+1), strings.Repeat("|", api.MaxInput+1), "A" + fill + "      "} {
		_, e1 := relation.ParseAtom(s)
		c, e2 := relation.ParseClause(s)
		field, e3 := relation.ParseField(s)
		atoms, e4 := relation.ParseAtoms(s)
		names, e5 := relation.ParseNames(s)
		for i, e := range []api.Errno{e1, e2, e3, e4, e5} {
			if e != api.ErrLong {
				t.Errorf("reader %d of MaxInput + 1 bytes %.5q: %d", i, s, e)
			}
		}
		if len(c)+len(field)+len(atoms)+len(names) != 0 {
			t.Error("lists beside an error")
		}
	}
}

func TestParseAnswersNewMemory(t *testing.T) { // P2.8: lists written over after a call
	const text = "aa | bb (= 1), cc, dd | ee"
	first, _ := relation.ParseField(text)
	second, _ := relation.ParseField(text)
	for i := range second {
		for k := range second[i] {
			second[i][k] = api.Atom{Name: "xx"}
		}
		// Appending would be seen in the next clause, if they shared room.
		for range 300 {
			second[i] = append(second[i], api.Atom{Name: "yy"})
		}
	}
	again, _ := relation.ParseField(text)
	want := []api.Clause{{{Name: "aa"}, {Name: "bb", Op: api.OpEqual, Version: "1"}}, {{Name: "cc"}}, {{Name: "dd"}, {Name: "ee"}}}
	if !reflect.DeepEqual(first, want) || !reflect.DeepEqual(again, want) {
		t.Errorf("%v, %v", first, again)
	}
	field, _ := relation.ParseField(text)
	_ = append(field[0], api.Atom{Name: "yy"})
	_ = append(field[1], api.Atom{Name: "zz"})
	if !reflect.DeepEqual(field, want) {
		t.Errorf("clauses share room: %v", field)
	}
	names, _ := relation.ParseNames("aa, bb")
	other, _ := relation.ParseNames("aa, bb")
	other[0] = "xx"
	if !slices.Equal(names, []string{"aa", "bb"}) {
		t.Errorf("%v", names)
	}
	atoms, _ := relation.ParseAtoms("aa, bb")
	others, _ := relation.ParseAtoms("aa, bb")
	others[0].Name = "xx"
	if atoms[0].Name != "aa" {
		t.Errorf("%v", atoms)
	}
}
