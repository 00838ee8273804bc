package control_test

import (
	"reflect"
	"regexp"
	"strconv"
	"strings"
	"testing"

	"larder/api"
	"larder/control"
	"larder/samples"
	"larder/stanza"
)

const head = "Package: aa\nVersion: 1\n"

// at gives a field's lines their numbers.
func at(f api.Field, numbers ...int) api.Field {
	f.At = numbers
	return f
}

// P4.1: texts that are right, and the package that each is.
func TestRead(t *testing.T) {
	essential, summed, relating, archived, filed := lean(), lean(), lean(), lean(), lean()
	essential.Essential = true
	summed.Summary = "x  y"
	relating.Depends = []api.Clause{{{Name: "bb"}, {Name: "cc", Op: api.OpEqual, Version: "1"}}, {{Name: "dd"}}}
	archived.Archive, archived.Size, archived.Sum = "x", 0, mixedSum
	filed.Files = []api.File{{Path: "a", Size: 0, Sum: mixedSum}, {Path: "b", Size: 10}}
	for _, c := range []struct {
		text string
		want api.Package
	}{
		{wholeText, whole()},
		{head, lean()},
		{"Version: 1\nPackage: aa\n", lean()},
		{"# c\n\n\nPACKAGE: aa\n# c\nvErSiOn:1", lean()},
		// What is as good as none.
		{head + "Essential: no\n", lean()},
		{head + "Depends:\nPre-Depends:\nConflicts:\nProvides:\nFiles:\nDescription:\n", lean()},
		{head + "Description:\n more of it\n .\n", lean()},
		// Other fields are passed over, whatever they say.
		{"X: y\n z\nPackages: -\n" + head + "Pre_Depends: (\nSize-Installed: 01\nSHA1: x\n", lean()},
		{head + "essential:\tyes\n", essential},
		{head + "Description: x  y \n\tmore\x80 of it\n", summed},
		// Relations over several lines; blanks count for nothing.
		{head + "Depends: bb | cc (= 1), dd\n", relating},
		{head + "DEPENDS:\n bb\n# c\n |cc(\n  =\n 1\n\t)\n ,dd\n", relating},
		{head + "Filename: x\nSize: 0\nSHA256: " + mixed + "\n", archived},
		{"sha256: " + mixed + "\nsize: 0\n" + head + "filename: x\n", archived},
		{head + "Files: \n " + mixed + " 0 a\n# c\n\t" + noughts + " 10 b \n", filed},
	} {
		got, wrong, e := readText(t, c.text)
		if wrong != 0 || e != api.OK || !control.Same(got, c.want) {
			t.Errorf("P4.1: Read of %q = %+v, %d, %d, want %+v", c.text, got, wrong, e, c.want)
		}
	}
	long := lean()
	long.Name, long.Version = strings.Repeat("n", 128), strings.Repeat("1", 256)
	if got, wrong, e := control.Read([]api.Field{line("Package", long.Name), line("Version", long.Version)}); wrong != 0 || e != api.OK || !control.Same(got, long) {
		t.Errorf("P4.1: Read of the longest name and version: %d, %d", wrong, e)
	}
}

// P4.1: texts that are wrong, and where.
func TestReadWrong(t *testing.T) {
	const sums = "SHA256: " + noughts + "\n"
	for _, c := range []struct {
		text  string
		wrong int
		e     api.Errno
	}{
		{"Package: a\nVersion: 1\n", 1, api.ErrCtlName},
		{"Package:\nVersion: 1\n", 1, api.ErrCtlName},
		{"Package: Aa\nVersion: 1\n", 1, api.ErrCtlName},
		{"Package: " + strings.Repeat("n", 129) + "\n", 1, api.ErrCtlName},
		{"Package: aa\nVersion:\n", 2, api.ErrCtlVersion},
		{"Package: aa\n\tbb\nVersion: 1\n", 1, api.ErrCtlValue},
		{"Version: " + strings.Repeat("1", 257) + "\nPackage: aa\n", 1, api.ErrCtlVersion},
		{"Version: 1_\nPackage: aa\n", 1, api.ErrCtlVersion},
		{head + "Essential:\n", 3, api.ErrCtlValue},
		{head + "Essential: maybe\n", 3, api.ErrCtlValue},
		{head + "Essential: Yes\n", 3, api.ErrCtlValue},
		{head + "Essential: yes no\n", 3, api.ErrCtlValue},
		{head + "# c\nDepends: bb,\n", 4, api.ErrCtlRelation},
		{head + "Depends: bb\n# c\n cc\n", 3, api.ErrCtlRelation},
		{head + "Depends: bb,\n # c\n cc\n", 3, api.ErrCtlRelation},
		{head + "Pre-Depends: b\n", 3, api.ErrCtlRelation},
		{head + "Conflicts: bb | cc\n", 3, api.ErrCtlRelation},
		{head + "Conflicts: bb (= )\n", 3, api.ErrCtlRelation},
		{head + "Provides: bb (= 1)\n", 3, api.ErrCtlRelation},
		{head + "Provides: bb cc\n", 3, api.ErrCtlRelation},
		{head + "Depends: bb" + strings.Repeat(",bb", api.MaxClauses) + "\n", 3, api.ErrCtlRelation},
		{head + "Depends: bb" + strings.Repeat("|bb", api.MaxChoices) + "\n", 3, api.ErrCtlRelation},
		{head + "Filename:\n", 3, api.ErrCtlPath},
		{head + "Filename: /a\n", 3, api.ErrCtlPath},
		{head + "Filename: a b\n", 3, api.ErrCtlPath},
		{head + "Size:\n", 3, api.ErrCtlValue},
		{head + "SHA256:\n", 3, api.ErrCtlValue},
		{head + "Files: x\n", 3, api.ErrCtlValue},
		{head + "Files: " + noughts + " 1 a\n", 3, api.ErrCtlValue},
		{head + "Files: x\n y\n", 3, api.ErrCtlValue},
		{head + "Files:\n y\n", 4, api.ErrCtlFiles},
		{head + "Description: x\ty\n", 3, api.ErrCtlSummary},
		{head + "Description: \xc3\xa9\n", 3, api.ErrCtlSummary},
		// Further lines where there may be but one.
		{"Package: aa\n# c\n  bb\nVersion: 1\n", 1, api.ErrCtlValue},
		{"Package: aa\nVersion: 1\n .\n", 2, api.ErrCtlValue},
		{head + "Essential: yes\n yes\n", 3, api.ErrCtlValue},
		{head + "Filename: a\n b\n", 3, api.ErrCtlValue},
		{head + "Size: 1\n 2\n", 3, api.ErrCtlValue},
		{head + "SHA256:\n " + noughts + "\n", 3, api.ErrCtlValue},
		{head + "Filename: x\nSize: 0\n" + sums + " .\n", 5, api.ErrCtlValue},
		// What is missing, at the first field, known or not, whatever stands ahead of it.
		{"X: y\n", 1, api.ErrCtlMissing},
		{"Package: aa\n", 1, api.ErrCtlMissing},
		{"# c\n\nVersion: 1\nX: y\n", 3, api.ErrCtlMissing},
		{"\nX: y\n" + "Package: aa\n", 2, api.ErrCtlMissing},
		{head + "Size: 0\n", 1, api.ErrCtlMissing},
		{head + sums, 1, api.ErrCtlMissing},
		{head + "Filename: x\n", 1, api.ErrCtlMissing},
		{head + "Size: 0\n" + sums, 1, api.ErrCtlMissing},
		{head + "Filename: x\nSize: 0\n", 1, api.ErrCtlMissing},
		{head + "Filename: x\n" + sums, 1, api.ErrCtlMissing},
		// Several things wrong: in one field, and in several.
		{"Package: a\n b\nVersion: 1\n", 1, api.ErrCtlValue},
		{head + "Filename: a//b\n c\n", 3, api.ErrCtlValue},
		{"Version:\nPackage: -\n", 1, api.ErrCtlVersion},
		{"Description: x\ty\nVersion:\nPackage: -\n", 1, api.ErrCtlSummary},
		{"X: y\nSize: 01\n", 2, api.ErrCtlValue},
		{head + "Size: 1\nDepends: -\nFiles: x\n", 4, api.ErrCtlRelation},
	} {
		got, wrong, e := readText(t, c.text)
		if wrong != c.wrong || e != c.e || !reflect.DeepEqual(got, api.Package{}) {
			t.Errorf("P4.1: Read of %.80q = %+v, %d, %d, want %d, %d", c.text, got, wrong, e, c.wrong, c.e)
		}
	}
}

// P4.1: paragraphs made by hand: fields without lines and numbers, known fields twice, blanks that no text has.
func TestReadByHand(t *testing.T) {
	name, version := at(line("Package", "aa"), 7), at(line("Version", "1"), 9)
	for _, c := range []struct {
		fields []api.Field
		wrong  int
		e      api.Errno
	}{
		{nil, 0, api.ErrCtlMissing},
		{[]api.Field{}, 0, api.ErrCtlMissing},
		{[]api.Field{{}}, 0, api.ErrCtlMissing},
		{[]api.Field{version}, 9, api.ErrCtlMissing},
		{[]api.Field{line("X"), version}, 0, api.ErrCtlMissing},
		{[]api.Field{at(line("X"), -4, 5), version}, -4, api.ErrCtlMissing},
		{[]api.Field{name, version}, 0, api.OK},
		{[]api.Field{line("Package", "aa"), line("Version", "1")}, 0, api.OK},
		// A known field twice, whatever the second one is; an unknown one as often as you like.
		{[]api.Field{name, version, at(line("VERSION", "1"), 11)}, 11, api.ErrCtlTwice},
		{[]api.Field{name, at(line("package", "-", "-"), 8, 3), version}, 8, api.ErrCtlTwice},
		{[]api.Field{name, version, line("Depends"), at(line("depends", "-"), 3)}, 3, api.ErrCtlTwice},
		{[]api.Field{name, version, line("Essential", "no"), at(line("Essential"), 3)}, 3, api.ErrCtlTwice},
		{[]api.Field{name, name}, 7, api.ErrCtlTwice},
		{[]api.Field{name, version, line("Files", "x"), line("Version")}, 0, api.ErrCtlValue},
		{[]api.Field{line("X"), name, version, line("x", "", ""), line("X"), line(""), line("")}, 0, api.OK},
		// No lines at all are one empty line.
		{[]api.Field{at(line("Package"), 4), version}, 4, api.ErrCtlName},
		{[]api.Field{name, at(line("Version"), 4)}, 4, api.ErrCtlVersion},
		{[]api.Field{name, version, at(line("Essential"), 4)}, 4, api.ErrCtlValue},
		{[]api.Field{name, version, at(line("Filename"), 4)}, 4, api.ErrCtlPath},
		{[]api.Field{name, version, at(line("Size"), 4)}, 4, api.ErrCtlValue},
		{[]api.Field{name, version, at(line("SHA256"), 4)}, 4, api.ErrCtlValue},
		{[]api.Field{name, version, line("Depends"), line("Pre-Depends"), line("Conflicts"), line("Provides"), line("Files"), line("Description")}, 0, api.OK},
		// Names of fields: A to Z for a to z, and nothing else.
		{[]api.Field{name, version, line("pac\u212aage", "-")}, 0, api.OK},
		{[]api.Field{name, version, line("\u017fize", "-")}, 0, api.OK},
		{[]api.Field{name, version, line("Size ", "-"), line(" Size", "-"), line("Size:", "-"), line("S\xffize", "-"), line("\xd3ize", "-")}, 0, api.OK},
		{[]api.Field{name, version, line("pre\rdepends", "-"), line("pre-depend", "-"), line("pre-dependss", "-")}, 0, api.OK},
		{[]api.Field{name, version, at(line("pRE-dEPENDS", "-"), 1)}, 1, api.ErrCtlRelation},
		{[]api.Field{name, version, at(line("sHa256", "-"), 1)}, 1, api.ErrCtlValue},
		// Blanks at the ends of a first line, which no text has.
		{[]api.Field{line("Package", " aa"), version}, 0, api.ErrCtlName},
		{[]api.Field{name, line("Version", "1 ")}, 0, api.ErrCtlVersion},
		{[]api.Field{name, version, line("Essential", "yes ")}, 0, api.ErrCtlValue},
		{[]api.Field{name, version, line("Filename", "a ")}, 0, api.ErrCtlPath},
		{[]api.Field{name, version, line("Files", " ")}, 0, api.ErrCtlValue},
		{[]api.Field{name, version, line("Description", " x")}, 0, api.ErrCtlSummary},
		{[]api.Field{name, version, line("Description", "x ")}, 0, api.ErrCtlSummary},
		{[]api.Field{name, version, line("Description", " ")}, 0, api.ErrCtlSummary},
		{[]api.Field{name, version, line("Description", "x\n")}, 0, api.ErrCtlSummary},
		{[]api.Field{name, version, line("Description", "", " \x00\n")}, 0, api.OK},
		{[]api.Field{name, version, line("Depends", " ", "\t", "\n", "")}, 0, api.OK},
	} {
		got, wrong, e := control.Read(c.fields)
		want := api.Package{}
		if c.e == api.OK {
			want = lean()
		}
		if wrong != c.wrong || e != c.e || !control.Same(got, want) {
			t.Errorf("P4.1: Read(%#v) = %+v, %d, %d, want %d, %d", c.fields, got, wrong, e, c.wrong, c.e)
		}
	}
}

// P4.1: a field that is passed over has no say, even if it is longer than any text.
func TestReadPassedOver(t *testing.T) {
	long := strings.Repeat("x", api.MaxInput+1)
	if got, wrong, e := control.Read([]api.Field{line("Package", "aa"), line("X", long), line("Version", "1"), line("Description", "", long)}); wrong != 0 || e != api.OK || !control.Same(got, lean()) {
		t.Errorf("P4.1: Read with long fields that are passed over: %d, %d", wrong, e)
	}
}

// readValue reads a lean package with one more field, at the line 5.
func readValue(name, value string, others ...api.Field) (api.Package, int, api.Errno) {
	return control.Read(append([]api.Field{line("Package", "aa"), line("Version", "1"), at(line(name, value), 5)}, others...))
}

// P4.1: decimals, held against a form and the library's reader.
func TestReadSize(t *testing.T) {
	form := regexp.MustCompile(`^(0|[1-9][0-9]*)$`)
	texts := append(samples.Texts([]string{"0", "1", "9", "-", "+", " ", "x"}, 3),
		"16777215", "16777216", "16777217", "016777216", "16777216 ", "20000000", "99999999", "100000000", "1_0", "1e3", "0x10", "1.0", "٣",
		"2147483647", "2147483648", "4294967296", "4294967297", "9223372036854775807", "9223372036854775808", "18446744073709551616", "18446744073709551617", "184467440737095516170", strings.Repeat("9", 1000), "1"+strings.Repeat("0", 400), strings.Repeat("0", 30))
	for _, text := range texts {
		want := api.ErrCtlValue
		size, err := strconv.Atoi(text)
		if form.MatchString(text) && err == nil && size <= api.MaxInput {
			want = api.OK
		}
		got, wrong, e := readValue("Size", text, line("Filename", "x"), line("SHA256", noughts))
		if e != want || e == api.OK && (got.Size != size || wrong != 0) || e != api.OK && wrong != 5 {
			t.Errorf("P4.1: Size %.40q: %d, %d, %d, want %d", text, got.Size, wrong, e, want)
		}
	}
}

// P4.1: sums of other lengths and with other signs.
func TestReadSum(t *testing.T) {
	for _, c := range []struct {
		text string
		e    api.Errno
		sum  [32]byte
	}{
		{noughts, api.OK, [32]byte{}},
		{mixed, api.OK, mixedSum},
		{mixed[:63], api.ErrCtlValue, [32]byte{}},
		{mixed + "0", api.ErrCtlValue, [32]byte{}},
		{mixed[:62], api.ErrCtlValue, [32]byte{}},
		{mixed + mixed, api.ErrCtlValue, [32]byte{}},
		{strings.ToUpper(mixed), api.ErrCtlValue, [32]byte{}},
		{mixed[:63] + " ", api.ErrCtlValue, [32]byte{}},
		{mixed[:62] + "é", api.ErrCtlValue, [32]byte{}},
	} {
		got, wrong, e := readValue("SHA256", c.text, line("Filename", "x"), line("Size", "1"))
		if e != c.e || got.Sum != c.sum || e != api.OK && wrong != 5 {
			t.Errorf("P4.1: SHA256 %q: %x, %d, %d, want %d", c.text, got.Sum, wrong, e, c.e)
		}
	}
	for b := range 256 {
		for _, place := range []int{0, 1, 31, 62, 63} {
			text := noughts[:place] + string([]byte{byte(b)}) + noughts[place+1:]
			value, err := strconv.ParseUint(text[place:place+1], 16, 8)
			var want [32]byte
			want[place/2] = byte(value << (4 * (1 - place%2)))
			got, _, e := readValue("SHA256", text, line("Filename", "x"), line("Size", "1"))
			right := err == nil && (b < 'A' || b > 'F')
			if right != (e == api.OK) || right && got.Sum != want || !right && e != api.ErrCtlValue {
				t.Errorf("P4.1: SHA256 %q: %x, %d", text, got.Sum, e)
			}
		}
	}
}

// P4.1: a Filename is a path.
func TestReadFilename(t *testing.T) {
	p, n := strings.Repeat("p", 155), strings.Repeat("n", 100)
	for _, path := range []string{"a", "a/b", n, p + "/" + n, "", "/", n + "n", p + "/" + n + "n", p + "p/" + n, ".", "a/..", "a b", "é"} {
		got, _, e := readValue("Filename", path, line("SHA256", noughts), line("Size", "1"))
		want := control.CheckPath(path)
		if e != want || e == api.OK && got.Archive != path {
			t.Errorf("P4.1: Filename %q: %q, %d, want %d", path, got.Archive, e, want)
		}
	}
}

// P4.1: a Summary's bounds and each of its bytes.
func TestReadSummary(t *testing.T) {
	form := regexp.MustCompile(`^([!-~]([ -~]{0,254}[!-~])?)?$`)
	texts := []string{"", "x", " ", "  ", "x y", "x  y"}
	for _, n := range []int{254, 255, 256, 257, 258, 1000} {
		texts = append(texts, strings.Repeat("x", n), "x"+strings.Repeat(" ", n-2)+"x", " "+strings.Repeat("x", n-1), strings.Repeat("x", n-1)+" ")
	}
	for b := range 256 {
		s := string([]byte{byte(b)})
		texts = append(texts, s, s+"x", "x"+s, "x"+s+"x")
	}
	for _, text := range texts {
		want := api.ErrCtlSummary
		if form.MatchString(text) {
			want = api.OK
		}
		got, wrong, e := readValue("Description", text)
		if e != want || e == api.OK && got.Summary != text || e != api.OK && wrong != 5 {
			t.Errorf("P4.1: Description %.20q of %d bytes: %d, %d, want %d", text, len(text), wrong, e, want)
		}
	}
}

// fileForm is a file's line: the sum, the size, what follows.
var fileForm = regexp.MustCompile(`^[0-9a-f]{64} (0|[1-9][0-9]*) ((?s).*)$`)

// oracleLine tells what is wrong with a file's line behind another one with the path m.
func oracleLine(text string) api.Errno {
	parts := fileForm.FindStringSubmatch(text)
	if parts == nil {
		return api.ErrCtlFiles
	}
	if size, err := strconv.Atoi(parts[1]); err != nil || size > api.MaxFile {
		return api.ErrCtlFiles
	}
	if _, _, e := oracleSplit(parts[2]); e != api.OK {
		return api.ErrCtlPath
	}
	if strings.Compare(parts[2], "m") <= 0 {
		return api.ErrCtlFiles
	}
	return api.OK
}

// P4.1: lines of Files, out of all their parts' ways to be right and wrong.
func TestReadFilesLine(t *testing.T) {
	sums := []string{noughts, mixed, mixed[:63], mixed + "0", strings.ToUpper(mixed), "", " " + mixed, "\t" + mixed}
	gaps := []string{" ", "", "  ", "\t", "\n"}
	sizes := []string{"0", "10", "1048576", "1048577", "01", "", "-1", "9223372036854775808", "18446744073709551617", "1x"}
	paths := []string{"n", "m/a", "mm", "m", "l/z", "Z", "", " n", "n ", "n o", "/n", "n/", "n//o", "n/../o", "~", "\x7f", strings.Repeat("n", 100), strings.Repeat("n", 101), strings.Repeat("n", 155) + "/" + strings.Repeat("o", 100), strings.Repeat("n", 155) + "/" + strings.Repeat("o", 101)}
	for _, sum := range sums {
		for _, gap := range gaps {
			for _, size := range sizes {
				for _, path := range paths {
					for _, text := range []string{sum + gap + size + " " + path, sum + " " + size + gap + path} {
						holdFilesLine(t, text)
					}
				}
			}
		}
	}
	for _, text := range []string{"", " ", "  ", "n", noughts, noughts + " ", noughts + " 1", noughts + " 1 ", "1 n", "n 1 " + noughts} {
		holdFilesLine(t, text)
	}
}

func holdFilesLine(t *testing.T, text string) {
	t.Helper()
	fields := []api.Field{line("Package", "aa"), line("Version", "1"), at(line("Files", "", noughts+" 1 m", text), 5, 6, 9)}
	got, wrong, e := control.Read(fields)
	want := oracleLine(text)
	if e != want || e != api.OK && wrong != 9 {
		t.Fatalf("P4.1: the line %q of Files: %d, %d, want %d", text, wrong, e, want)
	}
	if e != api.OK {
		return
	}
	parts := strings.Split(text, " ")
	if len(got.Files) != 2 || got.Files[1].Path != parts[2] || strconv.Itoa(got.Files[1].Size) != parts[1] || got.Files[1].Sum != [32]byte{} && got.Files[1].Sum != mixedSum {
		t.Fatalf("P4.1: the line %q of Files: %+v", text, got.Files)
	}
}

// P4.1: the line of Files that is told: the first one that is wrong, whose number need not be there.
func TestReadFilesWrong(t *testing.T) {
	for _, c := range []struct {
		lines []string
		wrong int
		e     api.Errno
	}{
		{[]string{" 1 b", " 1 a"}, 2, api.ErrCtlFiles},
		{[]string{" 1 a", " 1 a"}, 2, api.ErrCtlFiles},
		{[]string{" 1 a", " 2 b", " 3 a"}, 3, api.ErrCtlFiles},
		{[]string{" 1 a", " 2 a/b", " 3 a.b"}, 3, api.ErrCtlFiles},
		{[]string{" 1 a", " 2 a-", " 3 a/b", " 4 aa"}, 0, api.OK},
		{[]string{" 1 a", " 2 B"}, 2, api.ErrCtlFiles},
		{[]string{" 1 /a", " 1 a", "  1 a"}, 1, api.ErrCtlPath},
		{[]string{" 1 a", " x /a", " 1 /a"}, 2, api.ErrCtlFiles},
		{[]string{" 1 b", " 1 /", " 1 a"}, 2, api.ErrCtlPath},
		{[]string{" 1 a", "", " 1 b"}, 2, api.ErrCtlFiles},
	} {
		f, plain := line("Files", ""), 0
		for _, l := range c.lines {
			f.Lines = append(f.Lines, noughts+l)
		}
		for i := range f.Lines {
			f.At = append(f.At, 10+2*i)
		}
		if c.e != api.OK {
			plain = 10 + 2*c.wrong
		}
		if _, wrong, e := control.Read([]api.Field{line("Package", "aa"), line("Version", "1"), f}); wrong != plain || e != c.e {
			t.Errorf("P4.1: Files %q: %d, %d, want %d, %d", c.lines, wrong, e, plain, c.e)
		}
		f.At = nil
		if _, wrong, e := control.Read([]api.Field{line("Package", "aa"), line("Version", "1"), f}); wrong != 0 || e != c.e {
			t.Errorf("P4.1: Files %q without numbers: %d, %d, want 0, %d", c.lines, wrong, e, c.e)
		}
	}
	text := head + "Files:\n# c\n " + noughts + " 1 a\n# c\n#\n " + noughts + " 1 /a\n"
	if _, wrong, e := readText(t, text); wrong != 8 || e != api.ErrCtlPath {
		t.Errorf("P4.1: Files with comments between: %d, %d", wrong, e)
	}
}

// path tells the i-th of paths that rise.
func path(i int) string { return "p" + strconv.Itoa(10000+i) }

// P4.1: 4096 files are read, the 4097th is one too many, unless something else is wrong with it first.
func TestReadFilesMany(t *testing.T) {
	f := at(line("Files", ""), 3)
	for i := range api.MaxFiles {
		f.Lines, f.At = append(f.Lines, mixed+" "+strconv.Itoa(i)+" "+path(i)), append(f.At, 4+i)
	}
	fields := []api.Field{line("Package", "aa"), line("Version", "1"), f}
	got, wrong, e := control.Read(fields)
	if wrong != 0 || e != api.OK || len(got.Files) != api.MaxFiles {
		t.Fatalf("P4.1: 4096 files: %d, %d", wrong, e)
	}
	for i, file := range got.Files {
		if file != (api.File{Path: path(i), Size: i, Sum: mixedSum}) {
			t.Fatalf("P4.1: the file %d is %v", i, file)
		}
	}
	holdBack(t, got)
	for _, c := range []struct {
		last string
		e    api.Errno
	}{{mixed + " 1 q", api.ErrCtlFiles}, {mixed + " 1 /q", api.ErrCtlPath}, {mixed + " 1 a", api.ErrCtlFiles}, {"x", api.ErrCtlFiles}} {
		fields[2].Lines, fields[2].At = append(f.Lines, c.last), append(f.At, 9999)
		if got, wrong, e := control.Read(fields); wrong != 9999 || e != c.e || got.Files != nil {
			t.Errorf("P4.1: 4097 files, the last one %q: %d, %d, want %d", c.last, wrong, e, c.e)
		}
	}
}

// trial is a field with the error of its value.
type trial struct {
	field api.Field
	e     api.Errno
}

// trials are fields of each kind that are right, and wrong.
func trials() []trial {
	return []trial{
		{line("Package", "aa"), api.OK}, {line("PACKAGE", "-"), api.ErrCtlName},
		{line("version", "1"), api.OK}, {line("Version", ""), api.ErrCtlVersion}, {line("Version", "1", "2"), api.ErrCtlValue},
		{line("Essential", "yes"), api.OK}, {line("Essential", "?"), api.ErrCtlValue},
		{line("Depends", "bb,", "cc"), api.OK}, {line("Depends", ","), api.ErrCtlRelation},
		{line("Filename", "x"), api.OK}, {line("Filename", "/"), api.ErrCtlPath},
		{line("Size", "1"), api.OK}, {line("SIZE", "x"), api.ErrCtlValue},
		{line("SHA256", mixed), api.OK},
		{line("Files", "", noughts+" 1 a"), api.OK}, {line("Files", "", noughts+" 1 /"), api.ErrCtlPath}, {line("Files", "", "?"), api.ErrCtlFiles}, {line("Files", "?", "?"), api.ErrCtlValue},
		{line("Description", "x", "\t"), api.OK}, {line("Description", "\t"), api.ErrCtlSummary},
		{line("Other", "-"), api.OK}, {line("", "-"), api.OK},
	}
}

// oracleRead tells what is wrong with a row of trials, and with which of them.
func oracleRead(row []trial) (int, api.Errno) {
	stood := map[string]int{}
	for i, c := range row {
		name := strings.ToLower(c.field.Name)
		if stood[name]++; stood[name] > 1 && name != "other" && name != "" {
			return i, api.ErrCtlTwice
		}
		if c.e != api.OK {
			return i, c.e
		}
	}
	archive := stood["filename"] + stood["size"] + stood["sha256"]
	if stood["package"]+stood["version"] < 2 || archive != 0 && archive != 3 {
		return 0, api.ErrCtlMissing
	}
	return 0, api.OK
}

// P4.1, P4.5: all rows of up to three fields, ahead of and behind what is needed, and between an archive's fields.
func TestReadRows(t *testing.T) {
	pool := trials()
	needed := []trial{pool[0], pool[2]}
	archive := []trial{pool[0], pool[9], pool[13], pool[2]}
	for _, a := range pool {
		for _, b := range pool {
			holdRow(t, a, b)
			holdRow(t, append(append([]trial{a}, needed...), b)...)
			holdRow(t, append(append([]trial{a}, archive...), b)...)
			for _, c := range pool {
				holdRow(t, a, b, c)
				holdRow(t, append(needed, a, b, c)...)
				holdRow(t, append(archive, a, b, c)...)
			}
		}
	}
}

func holdRow(t *testing.T, row ...trial) {
	t.Helper()
	var fields []api.Field
	for i, c := range row {
		f := c.field
		for k := range f.Lines {
			f.At = append(f.At, 100*(i+1)+k)
		}
		fields = append(fields, f)
	}
	place, want := oracleRead(row)
	plain := 100 * (place + 1)
	if row[place].field.Name == "Files" && len(row[place].field.Lines) == 2 && row[place].field.Lines[0] == "" && want != api.ErrCtlTwice && want != api.ErrCtlMissing {
		plain++
	}
	if want == api.OK {
		plain = 0
	}
	got, wrong, e := control.Read(fields)
	if wrong != plain || e != want {
		t.Fatalf("P4.1: Read(%#v) = %d, %d, want %d, %d", fields, wrong, e, plain, want)
	}
	if e != api.OK && !reflect.DeepEqual(got, api.Package{}) {
		t.Fatalf("P4.1: Read(%#v) tells a package beside an error: %+v", fields, got)
	}
	if e == api.OK {
		if e := control.Check(got); e != api.OK {
			t.Fatalf("P4.5: Check(Read(%#v)) = %d", fields, e)
		}
		holdBack(t, got)
	}
}

// Memory: Read leaves the fields as they were, and its answer is the caller's.
func TestReadMemory(t *testing.T) {
	paragraphs, _, _ := stanza.Parse([]byte(wholeText))
	var fields []api.Field
	for _, f := range paragraphs[0] {
		fields = append(fields, api.Field{Name: f.Name, Lines: samples.Roomy(f.Lines, "beyond"), At: samples.Roomy(f.At, 99)})
	}
	fields = append(fields, api.Field{Name: "Other"})
	fields = samples.Roomy(fields, line("Beyond"))
	got, _, _ := control.Read(fields)
	again, _, _ := control.Read(fields)
	for i, f := range paragraphs[0] {
		g := fields[i]
		if !reflect.DeepEqual(g.Lines[:cap(g.Lines)], append(f.Lines, "beyond", "beyond")) || !reflect.DeepEqual(g.At[:cap(g.At)], append(f.At, 99, 99)) {
			t.Errorf("Memory: Read writes into what it was given: %#v", g)
		}
	}
	if fields[:cap(fields)][len(fields)].Name != "Beyond" || fields[len(fields)-1].Lines != nil {
		t.Error("Memory: Read writes into the fields that it was given")
	}
	spoilFields(fields)
	samples.Spoil(again)
	if !control.Same(got, whole()) {
		t.Errorf("Memory: what is written into fields, or into another answer, changes a package: %+v", got)
	}
}

// Memory: no list of a package that is answered runs into another's room.
func TestReadApart(t *testing.T) {
	got, _, _ := readText(t, head+"Depends: b1 | b2, b3 | b4, b5\nPre-Depends: b6\n")
	for i := range got.Depends {
		got.Depends[i] = append(got.Depends[i], api.Atom{Name: "more"})
	}
	got.PreDepends = append(got.PreDepends, nil)
	want := []api.Clause{{{Name: "b1"}, {Name: "b2"}, {Name: "more"}}, {{Name: "b3"}, {Name: "b4"}, {Name: "more"}}, {{Name: "b5"}, {Name: "more"}}}
	if !reflect.DeepEqual(got.Depends, want) {
		t.Errorf("Memory: clauses run into one another: %+v", got.Depends)
	}
}
