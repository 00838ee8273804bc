package index_test

import (
	"slices"
	"sort"
	"strconv"
	"strings"
	"testing"

	"larder/api"
	"larder/control"
	"larder/index"
	"larder/samples"
)

func pkg(name, version string) api.Package { return api.Package{Name: name, Version: version} }

// packages tells the packages of a text such as `aa 1, bb 2`.
func packages(text string) []api.Package {
	var list []api.Package
	for _, part := range strings.Split(text, ", ") {
		if name, version, ok := strings.Cut(part, " "); ok {
			list = append(list, pkg(name, version))
		}
	}
	return list
}

// tell is the way back from packages.
func tell(list []api.Package) string {
	var texts []string
	for _, p := range list {
		texts = append(texts, p.Name+" "+p.Version)
	}
	return strings.Join(texts, ", ")
}

func same(a, b []api.Package) bool { return slices.EqualFunc(a, b, control.Same) }

// rank tells a text that puts packages in order; no name has the byte between.
func rank(p api.Package) string { return p.Name + "\x00" + p.Version }

// inOrder tells packages in order.
func inOrder(ps []api.Package) []api.Package {
	list := slices.Clone(ps)
	sort.SliceStable(list, func(i, j int) bool { return rank(list[i]) < rank(list[j]) })
	return list
}

// many tells so many packages in order, each of 24 bytes as it is printed.
func many(n int) []api.Package {
	list := make([]api.Package, n)
	for i := range list {
		list[i] = pkg("p"+strconv.Itoa(100000+i), "1")
	}
	return list
}

// textOf tells the text of packages that have a name and a version alone, as they stand.
func textOf(list []api.Package) string {
	var texts []string
	for _, p := range list {
		texts = append(texts, "Package: "+p.Name+"\nVersion: "+p.Version+"\n")
	}
	return strings.Join(texts, "\n")
}

// holdParse holds what Parse tells of a text that is wrong.
func holdParse(t *testing.T, what, text string, wrong int, e api.Errno) {
	t.Helper()
	got, gotWrong, gotE := index.Parse([]byte(text))
	if len(got) != 0 || gotWrong != wrong || gotE != e {
		t.Errorf("P5.1: Parse(%s) = %d packages, %d, %d, want %d, %d", what, len(got), gotWrong, gotE, wrong, e)
	}
}

// holdPrinted holds P5.3 and P5.4 of packages that print.
func holdPrinted(t *testing.T, ps []api.Package) {
	t.Helper()
	text, e := index.Print(ps)
	if e != api.OK {
		t.Fatalf("P5.3: Print of %d packages: %d", len(ps), e)
	}
	var parts []string
	for _, p := range inOrder(ps) {
		part, _ := control.Print(p)
		parts = append(parts, string(part))
	}
	if string(text) != strings.Join(parts, "\n") {
		t.Fatalf("P5.3: Print of %.200q = %.500q", tell(ps), text)
	}
	if back, wrong, e := index.Parse(text); wrong != 0 || e != api.OK || !same(back, inOrder(ps)) {
		t.Fatalf("P5.4: Parse(Print of %.200q) = %.200q, %d, %d", tell(ps), tell(back), wrong, e)
	}
}

// P5.1: the document's examples, and texts without paragraphs.
func TestParse(t *testing.T) {
	for _, c := range []struct{ text, want string }{
		{"", ""},
		{"\n", ""},
		{" \t\n\n\t", ""},
		{"# a comment\n\n#\x80", ""},
		{"Package: aa\nVersion: 1", "aa 1"},
		{"\n\n# c\nVersion: 1\nX: y\nPackage: aa\n\n\n", "aa 1"},
		{"Package: bb\nVersion: 1\n\nPackage: aa\nVersion: 2\n\nPackage: aa\nVersion: 10\n", "aa 10, aa 2, bb 1"},
		{"Package: aa\nVersion: 1.0\n\nPackage: aa\nVersion: 1\n\nPackage: aa\nVersion: 1.00", "aa 1, aa 1.0, aa 1.00"},
		{"Package: aaa\nVersion: 1\n \t \nPackage: aa\nVersion: 2\n\nPackage: aa+\nVersion: 0\n\nPackage: aa.\nVersion: 0\n\nPackage: aa0\nVersion: 0", "aa 2, aa+ 0, aa. 0, aa0 0, aaa 1"},
	} {
		got, wrong, e := index.Parse([]byte(c.text))
		if tell(got) != c.want || wrong != 0 || e != api.OK {
			t.Errorf("P5.1: Parse(%q) = %s, %d, %d, want %s", c.text, tell(got), wrong, e, c.want)
		}
	}
	if got, wrong, e := index.Parse(nil); len(got) != 0 || wrong != 0 || e != api.OK {
		t.Errorf("P5.1: Parse(nil) = %s, %d, %d", tell(got), wrong, e)
	}
	// A package's other fields come along.
	full := samples.Full("aa", "1")
	text, _ := control.Print(full)
	if got, _, e := index.Parse(text); e != api.OK || !same(got, []api.Package{full}) {
		t.Errorf("P5.1: Parse(%q) = %+v, %d", text, got, e)
	}
}

// piece is a part of a text with what it is: a package (none: comments alone), whose first field's line is the first-th from 0 on; or wrong, in the line wrong.
type piece struct {
	text  string
	key   string
	first int
	wrong int
	e     api.Errno
}

func pieces() []piece {
	return []piece{
		{text: "Package: bb\nVersion: 2\n", key: "bb 2"},
		{text: "Package: aa\nVersion: 1\n", key: "aa 1"},
		{text: "# c\nversion: 1.0\n# c\npackage: aa\nDepends: bb,\n# c\n cc\n", key: "aa 1.0", first: 1},
		{text: "# c\n# c\nX: y\n z\n# c\nPackage: aa\nVersion: 1\nDescription: another one\n", key: "aa 1", first: 2},
		{text: "# alone\n"},
		// What the paragraph says is wrong.
		{text: "Package: bb\n# c\nVersion: 1\n .\n", wrong: 2, e: api.ErrCtlValue},
		{text: "# c\nX: y\n z\nVersion: 1\n", wrong: 1, e: api.ErrCtlMissing},
		{text: "Package: aa\nVersion: 1\nFiles:\n# c\n x\n", wrong: 4, e: api.ErrCtlFiles},
		// Its lines are wrong, and perhaps what it says ahead of that line and behind it.
		{text: "# c\njunk\n", wrong: 1, e: api.ErrStzName},
		{text: " x\n", wrong: 0, e: api.ErrStzFold},
		{text: "Package: b\nVersion: _\n# c\nPACKAGE: bb\n", wrong: 3, e: api.ErrStzTwice},
		{text: "Package: aa\nVersion: 1\n y\n#\x00\n", wrong: 3, e: api.ErrStzByte},
	}
}

// oracleParse goes through pieces from the left: the first one that is wrong is told.
func oracleParse(row []piece, between string) (string, int, api.Errno) {
	line := 1
	seen := map[string]bool{}
	var list []api.Package
	for _, p := range row {
		if p.e != api.OK {
			return "", line + p.wrong, p.e
		}
		if seen[p.key] {
			return "", line + p.first, api.ErrIdxTwice
		}
		if p.key != "" {
			seen[p.key] = true
			list = append(list, packages(p.key)...)
		}
		line += strings.Count(p.text+between, "\n")
	}
	return tell(inOrder(list)), 0, api.OK
}

// rows gives all rows of at most so many pieces.
func rows(most int, yield func([]piece)) {
	var grow func(row []piece)
	grow = func(row []piece) {
		yield(row)
		if len(row) == most {
			return
		}
		for _, p := range pieces() {
			grow(append(slices.Clone(row), p))
		}
	}
	grow(nil)
}

// P5.1, P5.4: all rows of up to four pieces, which have right and wrong paragraphs in every order.
func TestParseRows(t *testing.T) {
	for _, between := range []string{"\n", "\t \n\n# c\n\n"} {
		rows(4, func(row []piece) {
			var texts []string
			for _, p := range row {
				texts = append(texts, p.text)
			}
			text := strings.Join(texts, between)
			if len(row)%2 == 0 {
				text = strings.TrimSuffix(text, "\n")
			}
			want, wantWrong, wantE := oracleParse(row, between)
			got, wrong, e := index.Parse([]byte(text))
			if tell(got) != want || wrong != wantWrong || e != wantE {
				t.Fatalf("P5.1: Parse(%q) = %s, %d, %d, want %s, %d, %d", text, tell(got), wrong, e, want, wantWrong, wantE)
			}
			if e == api.OK {
				holdPrinted(t, got)
			}
		})
	}
}

// permute gives a list in all its orders.
func permute[T any](list []T, yield func([]T)) {
	if len(list) == 0 {
		yield(nil)
		return
	}
	for i, first := range list {
		rest := append(slices.Clone(list[:i]), list[i+1:]...)
		permute(rest, func(behind []T) { yield(append([]T{first}, behind...)) })
	}
}

// P5.1, P5.2, P5.3: an order that counts for nothing, with names that are a beginning of another's and versions that are equal in order.
func TestAnyOrder(t *testing.T) {
	want := []api.Package{samples.Full("aa", "1"), samples.Full("aa", "1.0"), pkg("aa", "1.00"), samples.Full("aa+", "0"), pkg("aaa", "0"), samples.Full("ab", "0")}
	if !same(inOrder(want), want) {
		t.Fatal("not in order")
	}
	permute(want, func(ps []api.Package) {
		var texts []string
		for _, p := range ps {
			text, _ := control.Print(p)
			texts = append(texts, string(text))
		}
		if got, wrong, e := index.Parse([]byte(strings.Join(texts, "\n"))); wrong != 0 || e != api.OK || !same(got, want) {
			t.Fatalf("P5.1: Parse of %s = %s, %d, %d", tell(ps), tell(got), wrong, e)
		}
		if got, e := index.Sorted(ps); e != api.OK || !same(got, want) {
			t.Fatalf("P5.2: Sorted(%s) = %s, %d", tell(ps), tell(got), e)
		}
		holdPrinted(t, ps)
	})
}

// P5.1: MaxPackages paragraphs are taken, the next one is too many, whatever it says, if it is whole.
func TestParseMany(t *testing.T) {
	most := many(api.MaxPackages)
	text := textOf(most)
	got, wrong, e := index.Parse([]byte(text))
	if wrong != 0 || e != api.OK || !same(got, most) {
		t.Errorf("P5.1: Parse of MaxPackages paragraphs = %d, %d, %d", len(got), wrong, e)
	}
	holdPrinted(t, most)
	next := 3*api.MaxPackages + 1
	if got, wrong, e := index.Parse([]byte(text + "\n# c\n\n")); len(got) != api.MaxPackages || wrong != 0 || e != api.OK {
		t.Errorf("P5.1: Parse of MaxPackages paragraphs and a comment = %d, %d, %d", len(got), wrong, e)
	}
	for _, c := range []struct {
		behind string
		wrong  int
		e      api.Errno
	}{
		{"Package: aa\nVersion: 1\n", next, api.ErrIdxMany},
		{"# c\n\n# c\nX: y", next + 3, api.ErrIdxMany},
		{"Package: a\n", next, api.ErrIdxMany},
		{"Package: p100000\nVersion: 1\n", next, api.ErrIdxMany},
		{"Package: aa\nVersion: 1\n\njunk\n", next, api.ErrIdxMany},
		{"Package: a\njunk\n", next + 1, api.ErrStzName},
		{"junk\n\nPackage: aa\nVersion: 1\n", next, api.ErrStzName},
	} {
		holdParse(t, "MaxPackages paragraphs and "+strconv.Quote(c.behind), text+"\n"+c.behind, c.wrong, c.e)
	}
	// What is wrong ahead is told ahead.
	tooMany := many(api.MaxPackages + 1)
	for _, c := range []struct {
		place int
		p     api.Package
		e     api.Errno
	}{{0, pkg("a", "1"), api.ErrCtlName}, {7, pkg("p100006", "1"), api.ErrIdxTwice}, {api.MaxPackages - 1, pkg("p100000", "1"), api.ErrIdxTwice}} {
		list := slices.Clone(tooMany)
		list[c.place] = c.p
		holdParse(t, "MaxPackages + 1 paragraphs, one of them wrong", textOf(list), 3*c.place+1, c.e)
	}
}

// P5.1: a text of MaxInput bytes, and of one more.
func TestParseLong(t *testing.T) {
	const head = "Package: bb\nVersion: 1\n\nPackage: aa\nVersion: 1\n# "
	for _, c := range []struct{ head, filling, want string }{
		{"", "\n", ""},
		{"# ", "x", ""},
		{"", " ", ""},
		{head, "c", "aa 1, bb 1"},
		{head + "\n\n", " ", "aa 1, bb 1"},
	} {
		text := c.head + strings.Repeat(c.filling, api.MaxInput-len(c.head))
		if got, wrong, e := index.Parse([]byte(text)); tell(got) != c.want || wrong != 0 || e != api.OK {
			t.Errorf("P5.1: Parse of MaxInput bytes, %.60q = %s, %d, %d, want %s", text, tell(got), wrong, e, c.want)
		}
		holdParse(t, "MaxInput + 1 bytes", text+c.filling, 0, api.ErrLong)
		holdParse(t, "MaxInput + 1 bytes, the first of them wrong", "\x00"+text, 0, api.ErrLong)
	}
	holdParse(t, "MaxInput bytes, the last of them wrong", head+strings.Repeat("c", api.MaxInput-len(head)-1)+"\x00", 6, api.ErrStzByte)
}

// P5.1: a paragraph that was read, and is too long as it is printed.
func TestParseLongParagraph(t *testing.T) {
	long := "Package: bb\nVersion: 1\nDepends: " + samples.Dense(samples.LongDepends(api.MaxInput+1)) + "\n"
	const ahead = "Package: aa\nVersion: 1\n\n# c\n"
	holdParse(t, "a long paragraph", long, 1, api.ErrLong)
	holdParse(t, "a long paragraph behind another", ahead+long, 5, api.ErrLong)
	holdParse(t, "a long paragraph ahead of a line that is wrong", ahead+long+"\njunk\n", 5, api.ErrLong)
	holdParse(t, "a long paragraph ahead of one that is wrong", ahead+long+"\nPackage: a\n", 5, api.ErrLong)
	holdParse(t, "a long paragraph with a line that is wrong", ahead+long+"junk\n", 8, api.ErrStzName)
	holdParse(t, "a long paragraph with a value that is wrong", ahead+long+"Essential: maybe\n", 8, api.ErrCtlValue)
	holdParse(t, "a long paragraph behind one that is wrong", "Package: a\n\n"+long, 1, api.ErrCtlName)
	holdParse(t, "a long paragraph behind a line that is wrong", "junk\n\n"+long, 1, api.ErrStzName)
}

// P5.3: the document's form, of few packages.
func TestPrint(t *testing.T) {
	for _, c := range []struct{ packages, want string }{
		{"", ""},
		{"aa 1", "Package: aa\nVersion: 1\n"},
		{"bb 1, aa 2, aa 10", "Package: aa\nVersion: 10\n\nPackage: aa\nVersion: 2\n\nPackage: bb\nVersion: 1\n"},
	} {
		if got, e := index.Print(packages(c.packages)); string(got) != c.want || e != api.OK {
			t.Errorf("P5.3: Print(%s) = %q, %d, want %q", c.packages, got, e, c.want)
		}
		holdPrinted(t, packages(c.packages))
	}
	holdPrinted(t, []api.Package{})
	holdPrinted(t, []api.Package{samples.Full("bb", "1"), pkg("bb", "1.0"), samples.Full("aa", "1")})
}

// holdPrintWrong holds what Print tells of packages that it refuses.
func holdPrintWrong(t *testing.T, what string, ps []api.Package, want api.Errno) {
	t.Helper()
	if text, e := index.Print(ps); len(text) != 0 || e != want {
		t.Errorf("P5.3: Print of %s = %d bytes, %d, want %d", what, len(text), e, want)
	}
}

// P5.3: what is refused, each error ahead of those that the document names behind it.
func TestPrintWrong(t *testing.T) {
	holdPrintWrong(t, "twins", packages("aa 1, bb 1, aa 1"), api.ErrIdxTwice)
	holdPrintWrong(t, "twins and a wrong name", packages("aa 1, aa 1, a 1"), api.ErrCtlName)
	holdPrintWrong(t, "MaxPackages + 1", many(api.MaxPackages+1), api.ErrIdxMany)
	holdPrintWrong(t, "MaxPackages + 1 with twins", append(many(api.MaxPackages), pkg("p100000", "1")), api.ErrIdxTwice)
	holdPrintWrong(t, "MaxPackages + 1 with a wrong version", append(many(api.MaxPackages), pkg("aa", "x")), api.ErrCtlVersion)
	holdPrintWrong(t, "MaxUniverse", many(api.MaxUniverse), api.ErrIdxMany)
	holdPrintWrong(t, "MaxUniverse + 1 with a wrong version", append(many(api.MaxUniverse), pkg("aa", "x")), api.ErrIdxMany)
	long := many(api.MaxPackages + 1)
	for i := range long {
		long[i].Version = strings.Repeat("1", api.MaxVersion)
	}
	holdPrintWrong(t, "MaxPackages long ones", long[:api.MaxPackages], api.ErrLong)
	holdPrintWrong(t, "MaxPackages + 1 long ones", long, api.ErrIdxMany)
	holdPrintWrong(t, "MaxPackages long ones with twins", append(long[1:api.MaxPackages:api.MaxPackages], long[1]), api.ErrIdxTwice)
	holdPrinted(t, long[:1000])
}

// P5.3, P5.4: an index whose text has MaxInput bytes, and one more.
func TestPrintLong(t *testing.T) {
	ps := packages("cc 1, bb 1, aa 1")
	ps[0].Depends, ps[1].Depends = samples.LongDepends(api.MaxInput/2), samples.LongDepends(1<<21)
	fixed, _ := index.Print(ps)
	rest := api.MaxInput - len(fixed) + 1<<21
	for _, c := range []struct {
		more int
		e    api.Errno
	}{{-1, api.OK}, {0, api.OK}, {1, api.ErrLong}, {2, api.ErrLong}} {
		ps[1].Depends = samples.LongDepends(rest + c.more)
		text, e := index.Print(ps)
		if e != c.e || e == api.OK && len(text) != api.MaxInput+c.more || e != api.OK && len(text) != 0 {
			t.Errorf("P5.3: Print of MaxInput + %d bytes = %d, %d", c.more, len(text), e)
		}
		if e == api.OK {
			holdPrinted(t, ps)
		}
	}
	// The empty lines between count, too.
	ps[1].Depends = samples.LongDepends(rest - len("\n"+textOf(packages("dd 1"))))
	holdPrinted(t, append(ps, pkg("dd", "1")))
	holdPrintWrong(t, "a text one byte too long", append(ps, pkg("dd", "10")), api.ErrLong)
	ps[1].Depends = samples.LongDepends(api.MaxInput)
	holdPrintWrong(t, "a package that is too long by itself", ps, api.ErrLong)
	ps[1].Depends = samples.LongDepends(api.MaxInput + 1)
	holdPrintWrong(t, "a relation that is too long by itself", ps, api.ErrCtlRelation)
}

// P5.4: what Parse takes may be too long as it is printed.
func TestParsedButTooLongToPrint(t *testing.T) {
	half := samples.LongDepends(api.MaxInput / 2)
	text := "Package: bb\nVersion: 1\nDepends: " + samples.Dense(half) + "\n\nPackage: aa\nVersion: 1\nDepends: " + samples.Dense(half) + "\n"
	got, wrong, e := index.Parse([]byte(text))
	if tell(got) != "aa 1, bb 1" || wrong != 0 || e != api.OK {
		t.Fatalf("P5.1: Parse = %s, %d, %d", tell(got), wrong, e)
	}
	holdPrintWrong(t, "what was parsed", got, api.ErrLong)
	holdPrinted(t, got[:1])
}
