package control_test

import (
	"reflect"
	"strings"
	"testing"

	"larder/api"
	"larder/control"
	"larder/samples"
	"larder/stanza"
)

// P4.2: the document's examples, and each field that is printed alone.
func TestPrint(t *testing.T) {
	for _, c := range []struct {
		how  func(p *api.Package)
		want string
	}{
		{func(p *api.Package) {}, head},
		{func(p *api.Package) { *p = whole() }, wholeText},
		{func(p *api.Package) { p.Essential = true }, head + "Essential: yes\n"},
		{func(p *api.Package) { p.Depends = []api.Clause{} }, head},
		{func(p *api.Package) { p.Depends = []api.Clause{{{Name: "bb"}}} }, head + "Depends: bb\n"},
		{func(p *api.Package) {
			p.PreDepends = []api.Clause{{{Name: "bb"}, {Name: "cc", Op: api.OpEqual, Version: "1"}}}
		}, head + "Pre-Depends: bb | cc (= 1)\n"},
		{func(p *api.Package) { p.Conflicts, p.Provides = []api.Atom{{Name: "bb"}}, []string{"cc"} }, head + "Conflicts: bb\nProvides: cc\n"},
		{func(p *api.Package) { p.Conflicts, p.Provides, p.Files = []api.Atom{}, []string{}, []api.File{} }, head},
		{func(p *api.Package) { p.Archive = "x" }, head + "Filename: x\nSize: 0\nSHA256: " + noughts + "\n"},
		{func(p *api.Package) { p.Archive, p.Size = "x", 16777216 }, head + "Filename: x\nSize: 16777216\nSHA256: " + noughts + "\n"},
		{func(p *api.Package) { p.Files = []api.File{{Path: "#", Size: 1, Sum: mixedSum}} }, head + "Files:\n " + mixed + " 1 #\n"},
		{func(p *api.Package) { p.Summary = "#" }, head + "Description: #\n"},
	} {
		p := lean()
		c.how(&p)
		text, e := control.Print(p)
		if string(text) != c.want || e != api.OK || control.Check(p) != api.OK {
			t.Errorf("P4.2: Print(%+v) = %q, %d, want %q", p, text, e, c.want)
		}
		holdBack(t, p)
		fields, e := control.Fields(p)
		want, _, _ := stanza.Parse([]byte(c.want))
		if e != api.OK || !stanza.Same([][]api.Field{fields}, want) {
			t.Errorf("P4.2: Fields(%+v) = %#v, %d", p, fields, e)
		}
		for _, f := range fields {
			if len(f.At) != 0 {
				t.Errorf("P4.2: Fields(%+v) tells lines: %#v", p, f)
			}
		}
	}
}

// fault is something that may be wrong with a package.
type fault struct {
	how func(p *api.Package)
	e   api.Errno
}

// faults are in groups, those that are told first ahead; the first of each group is none.
func faults() [][]fault {
	none := fault{func(p *api.Package) {}, api.OK}
	bound := func(how func(p *api.Package)) fault { return fault{how, api.OK} }
	return [][]fault{
		{none,
			bound(func(p *api.Package) { p.Name = strings.Repeat("n", 128) }),
			{func(p *api.Package) { p.Name = "" }, api.ErrCtlName},
			{func(p *api.Package) { p.Name = strings.Repeat("n", 129) }, api.ErrCtlName}},
		{none,
			bound(func(p *api.Package) { p.Version = strings.Repeat("1", 256) }),
			{func(p *api.Package) { p.Version = "x" }, api.ErrCtlVersion},
			{func(p *api.Package) { p.Version = strings.Repeat("1", 257) }, api.ErrCtlVersion}},
		{none,
			{func(p *api.Package) { p.Depends = []api.Clause{nil} }, api.ErrCtlRelation},
			{func(p *api.Package) { p.PreDepends = []api.Clause{{{Name: "bb", Version: "1"}}} }, api.ErrCtlRelation},
			{func(p *api.Package) { p.Conflicts = []api.Atom{{Name: "bb", Op: 6, Version: "1"}} }, api.ErrCtlRelation},
			{func(p *api.Package) { p.Provides = []string{"bb", "-"} }, api.ErrCtlRelation}},
		{none,
			bound(func(p *api.Package) { p.Archive = "x" }),
			{func(p *api.Package) { p.Archive = "/" }, api.ErrCtlPath},
			{func(p *api.Package) { p.Archive = strings.Repeat("x", 101) }, api.ErrCtlPath}},
		{none,
			{func(p *api.Package) { p.Size = -1 }, api.ErrCtlValue},
			{func(p *api.Package) { p.Size = api.MaxInput + 1 }, api.ErrCtlValue}},
		{none,
			bound(func(p *api.Package) { p.Files = many(api.MaxFiles) }),
			{func(p *api.Package) { p.Files = many(api.MaxFiles + 1) }, api.ErrCtlFiles},
			{func(p *api.Package) { p.Files = append([]api.File{{Path: "/", Size: -1}}, many(api.MaxFiles)...) }, api.ErrCtlFiles},
			{func(p *api.Package) { p.Files = []api.File{{Path: "/", Size: -1}} }, api.ErrCtlPath},
			{func(p *api.Package) { p.Files = []api.File{{Path: "b"}, {Path: "a", Size: -1}, {Path: "/"}} }, api.ErrCtlFiles},
			{func(p *api.Package) { p.Files = []api.File{{Path: "a"}, {Path: "a"}} }, api.ErrCtlFiles},
			{func(p *api.Package) { p.Files = []api.File{{Path: "a", Size: api.MaxFile + 1}} }, api.ErrCtlFiles},
			{func(p *api.Package) { p.Files = []api.File{{Path: "a", Size: -1}, {Path: ""}} }, api.ErrCtlFiles},
			{func(p *api.Package) { p.Files = []api.File{{Path: "a"}, {Path: ""}, {Path: "a", Size: -1}} }, api.ErrCtlPath}},
		{none,
			bound(func(p *api.Package) { p.Summary = strings.Repeat("x", 256) }),
			{func(p *api.Package) { p.Summary = strings.Repeat("x", 257) }, api.ErrCtlSummary},
			{func(p *api.Package) { p.Summary = " x" }, api.ErrCtlSummary},
			{func(p *api.Package) { p.Summary = "x\n" }, api.ErrCtlSummary}},
	}
}

// many tells so many files.
func many(n int) []api.File {
	list := make([]api.File, n)
	for i := range list {
		list[i].Path = path(i)
	}
	return list
}

// holdCheck holds what Check, Fields and Print tell of a package.
func holdCheck(t *testing.T, p api.Package, want api.Errno) {
	t.Helper()
	if e := control.Check(p); e != want {
		t.Fatalf("P4.2: Check(%.300q) = %d, want %d", p.Name+" "+p.Version+" "+p.Archive+" "+p.Summary, e, want)
	}
	fields, e := control.Fields(p)
	if e != want || (e != api.OK) != (fields == nil) {
		t.Fatalf("P4.2: Fields = %d fields, %d, want %d", len(fields), e, want)
	}
	text, e := control.Print(p)
	if e != want || (e != api.OK) != (text == nil) {
		t.Fatalf("P4.2: Print = %d bytes, %d, want %d", len(text), e, want)
	}
}

// P4.2: each thing that may be wrong, and any two of them: the one that is named first is told.
func TestCheck(t *testing.T) {
	groups := faults()
	for i, group := range groups {
		for _, first := range group {
			for j := i + 1; j < len(groups); j++ {
				for _, second := range groups[j] {
					p := lean()
					first.how(&p)
					second.how(&p)
					want := first.e
					if want == api.OK {
						want = second.e
					}
					holdCheck(t, p, want)
					if want == api.OK {
						holdBack(t, p)
					}
				}
			}
		}
	}
	all := lean()
	for i := len(groups) - 1; i >= 0; i-- {
		group := groups[i]
		group[len(group)-1].how(&all)
		holdCheck(t, all, group[len(group)-1].e)
	}
}

// P4.2: an archive's size and sum, with an Archive and without.
func TestCheckArchive(t *testing.T) {
	for _, c := range []struct {
		archive string
		size    int
		sum     [32]byte
		e       api.Errno
	}{
		{"", 0, [32]byte{}, api.OK},
		{"", 1, [32]byte{}, api.ErrCtlValue},
		{"", -1, [32]byte{}, api.ErrCtlValue},
		{"", 0, [32]byte{31: 1}, api.ErrCtlValue},
		{"", 0, [32]byte{1}, api.ErrCtlValue},
		{"x", 0, [32]byte{}, api.OK},
		{"x", api.MaxInput, mixedSum, api.OK},
		{"x", api.MaxInput + 1, mixedSum, api.ErrCtlValue},
		{"x", -1, mixedSum, api.ErrCtlValue},
		{"x", 1 << 62, mixedSum, api.ErrCtlValue},
		{"x", -1 << 63, mixedSum, api.ErrCtlValue},
		{"x/", -1, mixedSum, api.ErrCtlPath},
		{" ", 0, [32]byte{}, api.ErrCtlPath},
	} {
		p := lean()
		p.Archive, p.Size, p.Sum = c.archive, c.size, c.sum
		holdCheck(t, p, c.e)
		if c.e == api.OK {
			holdBack(t, p)
		}
	}
}

// P4.2: a relation has so many clauses and choices, in each field.
func TestCheckMany(t *testing.T) {
	atoms, names := make([]api.Atom, api.MaxClauses+1), make([]string, api.MaxClauses+1)
	clauses := make([]api.Clause, api.MaxClauses+1)
	for i := range names {
		atoms[i].Name, names[i], clauses[i] = "bb", "bb", api.Clause{{Name: "bb"}}
	}
	for _, c := range []struct {
		how func(p *api.Package, n int)
		max int
	}{
		{func(p *api.Package, n int) { p.Depends = clauses[:n] }, api.MaxClauses},
		{func(p *api.Package, n int) { p.PreDepends = clauses[:n] }, api.MaxClauses},
		{func(p *api.Package, n int) { p.Conflicts = atoms[:n] }, api.MaxClauses},
		{func(p *api.Package, n int) { p.Provides = names[:n] }, api.MaxClauses},
		{func(p *api.Package, n int) { p.Depends = []api.Clause{atoms[:n]} }, api.MaxChoices},
		{func(p *api.Package, n int) { p.PreDepends = []api.Clause{atoms[:n]} }, api.MaxChoices},
	} {
		p := lean()
		c.how(&p, c.max)
		holdCheck(t, p, api.OK)
		holdBack(t, p)
		c.how(&p, c.max+1)
		holdCheck(t, p, api.ErrCtlRelation)
	}
}

// P4.2, P4.5: a paragraph of MaxInput bytes, and one more; one field of more than that.
func TestCheckLong(t *testing.T) {
	room := api.MaxInput - len(head+"Depends: \n")
	for _, c := range []struct {
		size int
		e    api.Errno
	}{{room - 1, api.OK}, {room, api.OK}, {room + 1, api.ErrLong}, {api.MaxInput, api.ErrLong}, {api.MaxInput + 1, api.ErrCtlRelation}} {
		p := lean()
		p.Depends = samples.LongDepends(c.size)
		holdCheck(t, p, c.e)
		if c.e != api.OK {
			continue
		}
		text, _ := control.Print(p)
		if len(text) != api.MaxInput-room+c.size {
			t.Errorf("P4.2: Print of %d bytes has %d", api.MaxInput-room+c.size, len(text))
		}
		holdBack(t, p)
	}
}

// P4.2: what is too long over several fields; all else that is wrong is told ahead of it.
func TestCheckLongTogether(t *testing.T) {
	half := samples.LongDepends(8500000)
	p := lean()
	p.Depends = half
	holdCheck(t, p, api.OK)
	p.PreDepends = half
	holdCheck(t, p, api.ErrLong)
	for _, f := range []fault{
		{func(p *api.Package) { p.Summary = " " }, api.ErrCtlSummary},
		{func(p *api.Package) { p.Files = []api.File{{Path: "/"}} }, api.ErrCtlPath},
		{func(p *api.Package) { p.Files = []api.File{{Path: "a", Size: -1}} }, api.ErrCtlFiles},
		{func(p *api.Package) { p.Size = 1 }, api.ErrCtlValue},
		{func(p *api.Package) { p.Archive = "/" }, api.ErrCtlPath},
		{func(p *api.Package) { p.Provides = []string{"-"} }, api.ErrCtlRelation},
		{func(p *api.Package) { p.Version = "" }, api.ErrCtlVersion},
		{func(p *api.Package) { p.Name = "" }, api.ErrCtlName},
	} {
		f.how(&p)
		holdCheck(t, p, f.e)
	}
}

// P4.1: what can be read, but is too long as it is printed, is told at the first field; ahead of it goes all else that is wrong.
func TestReadLong(t *testing.T) {
	name, version := at(line("Package", "aa"), 7), at(line("Version", "1"), 9)
	room := api.MaxInput - len(head+"Depends: \n")
	for _, c := range []struct {
		size int
		e    api.Errno
	}{{room, api.OK}, {room + 1, api.ErrLong}, {api.MaxInput, api.ErrLong}, {api.MaxInput + 1, api.ErrLong}, {api.MaxInput + 100000, api.ErrLong}} {
		depends := samples.LongDepends(c.size)
		text := samples.Dense(depends)
		if len(text) > api.MaxInput-100 {
			t.Fatalf("a text of %d bytes is too long", len(text))
		}
		got, wrong, e := control.Read([]api.Field{name, version, at(line("Depends", text), 20)})
		if e != c.e || e == api.OK && (wrong != 0 || !reflect.DeepEqual(got.Depends, depends)) || e != api.OK && (wrong != 7 || !control.Same(got, api.Package{})) {
			t.Errorf("P4.1: Read of a Depends that prints to %d bytes: %d, %d, want %d", c.size, wrong, e, c.e)
		}
		if e == api.OK {
			holdBack(t, got)
		}
	}
	long := at(line("Depends", samples.Dense(samples.LongDepends(api.MaxInput+1))), 20)
	for _, c := range []struct {
		fields []api.Field
		wrong  int
		e      api.Errno
	}{
		{[]api.Field{long, name, version}, 20, api.ErrLong},
		{[]api.Field{line("X"), long, name, version}, 0, api.ErrLong},
		{[]api.Field{long, name}, 20, api.ErrCtlMissing},
		{[]api.Field{name, version, long, at(line("Size", "1"), 21)}, 7, api.ErrCtlMissing},
		{[]api.Field{name, version, long, at(line("Size", "01"), 21)}, 21, api.ErrCtlValue},
		{[]api.Field{name, version, long, at(line("version", "1"), 21)}, 21, api.ErrCtlTwice},
	} {
		if _, wrong, e := control.Read(c.fields); wrong != c.wrong || e != c.e {
			t.Errorf("P4.1: Read of what is too long: %d, %d, want %d, %d", wrong, e, c.wrong, c.e)
		}
	}
}

// P4.1: a relation whose lines have more than MaxInput bytes cannot be read at all.
func TestReadLongLines(t *testing.T) {
	half := strings.Repeat(" ", api.MaxInput/2)
	for _, c := range []struct {
		lines []string
		wrong int
		e     api.Errno
	}{
		{[]string{half, half[1:]}, 0, api.OK},
		{[]string{half, half}, 5, api.ErrCtlRelation},
	} {
		for _, name := range []string{"Depends", "Pre-Depends", "Conflicts", "Provides"} {
			fields := []api.Field{line("Package", "aa"), line("Version", "1"), at(line(name, c.lines...), 5, 6)}
			if _, wrong, e := control.Read(fields); wrong != c.wrong || e != c.e {
				t.Errorf("P4.1: %s of long lines: %d, %d, want %d, %d", name, wrong, e, c.wrong, c.e)
			}
		}
	}
}

// P4.5: packages out of many values, printed and read back.
func TestBackMany(t *testing.T) {
	p, n := strings.Repeat("p", 155), strings.Repeat("n", 100)
	var list []api.Package
	for _, version := range []string{"1", "0:1-0", strings.Repeat("9", 256), "1.0~rc1+b-2"} {
		for _, clauses := range [][]api.Clause{nil, {}, {{{Name: "bb"}}}, {{{Name: "bb", Op: api.OpMore, Version: version}, {Name: "0+"}}, {{Name: "bb"}}}} {
			for _, archive := range []string{"", "x", p + "/" + n} {
				for _, files := range [][]api.File{nil, {{Path: "~", Size: api.MaxFile, Sum: mixedSum}}, {{Path: "a/" + n}, {Path: "a/" + n[:99] + "o"}, {Path: "b", Size: 1}}} {
					for _, summary := range []string{"", "x", strings.Repeat("~", 256), ". # :"} {
						q := api.Package{Name: "aa", Version: version, Essential: len(clauses) > 1, Depends: clauses, PreDepends: clauses, Archive: archive, Files: files, Summary: summary}
						if archive != "" {
							q.Size, q.Sum = len(archive)-1, mixedSum
						}
						for _, c := range clauses {
							q.Conflicts, q.Provides = append(q.Conflicts, c...), append(q.Provides, c[0].Name)
						}
						list = append(list, q)
					}
				}
			}
		}
	}
	for _, q := range list {
		holdBack(t, q)
	}
}
