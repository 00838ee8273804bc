package control_test

import (
	"reflect"
	"slices"
	"strings"
	"testing"

	"larder/api"
	"larder/control"
	"larder/samples"
	"larder/stanza"
)

const (
	noughts = "0000000000000000000000000000000000000000000000000000000000000000"
	mixed   = "00ff0123456789abcdef00000000000000000000000000000000000000000010"
)

// mixedSum is what mixed says.
var mixedSum = [32]byte{0, 0xff, 0x01, 0x23, 0x45, 0x67, 0x89, 0xab, 0xcd, 0xef, 31: 0x10}

// lean is a package with what is needed alone.
func lean() api.Package { return api.Package{Name: "aa", Version: "1"} }

// whole is a package with all that a package may have.
func whole() api.Package {
	return api.Package{
		Name: "aa", Version: "1:2-3", Essential: true,
		Depends:    []api.Clause{{{Name: "bb", Op: api.OpAtLeast, Version: "1"}, {Name: "cc"}}, {{Name: "dd"}}},
		PreDepends: []api.Clause{{{Name: "ee", Op: api.OpMore, Version: "0~"}}},
		Conflicts:  []api.Atom{{Name: "ff", Op: api.OpLess, Version: "2"}, {Name: "f2"}},
		Provides:   []string{"gg", "hh"},
		Files:      []api.File{{Path: "a", Size: 5}, {Path: "b/c", Sum: mixedSum}, {Path: "b/d", Size: api.MaxFile}},
		Archive:    "pool/aa", Size: 77, Sum: mixedSum,
		Summary: "a thing: or #2",
	}
}

// wholeText is what whole prints.
const wholeText = "Package: aa\nVersion: 1:2-3\nEssential: yes\nDepends: bb (>= 1) | cc, dd\nPre-Depends: ee (>> 0~)\nConflicts: ff (<< 2), f2\nProvides: gg, hh\nFilename: pool/aa\nSize: 77\nSHA256: " + mixed + "\nFiles:\n " + noughts + " 5 a\n " + mixed + " 0 b/c\n " + noughts + " 1048576 b/d\nDescription: a thing: or #2\n"

// line makes a field by hand, whose lines have no numbers.
func line(name string, lines ...string) api.Field { return api.Field{Name: name, Lines: lines} }

// readText reads a text of one paragraph.
func readText(t *testing.T, text string) (api.Package, int, api.Errno) {
	t.Helper()
	paragraphs, wrong, e := stanza.Parse([]byte(text))
	if e != api.OK || len(paragraphs) != 1 {
		t.Fatalf("P3.1: Parse(%.80q): %d paragraphs, %d, %d", text, len(paragraphs), wrong, e)
	}
	return control.Read(paragraphs[0])
}

// holdBack holds P4.5 of a package that may be: it is read again out of its fields, and out of its text.
func holdBack(t *testing.T, p api.Package) {
	t.Helper()
	fields, e := control.Fields(p)
	back, wrong, e2 := control.Read(fields)
	if e != api.OK || e2 != api.OK || wrong != 0 || !control.Same(back, p) {
		t.Fatalf("P4.5: Read(Fields(%+v)) = %+v, %d, %d, %d", p, back, wrong, e, e2)
	}
	text, e := control.Print(p)
	if e != api.OK {
		t.Fatalf("P4.5: Print(%+v) = %d", p, e)
	}
	if back, wrong, e := readText(t, string(text)); e != api.OK || wrong != 0 || !control.Same(back, p) {
		t.Fatalf("P4.5: Read of the text of %+v = %+v, %d, %d", p, back, wrong, e)
	}
}

// P4.4: Key.
func TestKey(t *testing.T) {
	if got := control.Key(whole()); got != (api.Key{Name: "aa", Version: "1:2-3"}) {
		t.Errorf("P4.4: Key = %v", got)
	}
	if got := control.Key(api.Package{Name: "!", Summary: "x"}); got != (api.Key{Name: "!"}) {
		t.Errorf("P4.4: Key of what may not be = %v", got)
	}
	count := map[api.Key]int{}
	for _, p := range []api.Package{lean(), {Name: "aa", Version: "1.0"}, {Name: "aa", Version: "1", Summary: "x"}, {Name: "ab", Version: "1"}} {
		count[control.Key(p)]++
	}
	if len(count) != 3 || count[api.Key{Name: "aa", Version: "1"}] != 2 {
		t.Errorf("P4.4: keys of maps: %v", count)
	}
}

// changes are packages that are unlike whole, each in one thing.
func changes() []api.Package {
	var list []api.Package
	add := func(how func(p *api.Package)) {
		p := whole()
		how(&p)
		list = append(list, p)
	}
	add(func(p *api.Package) { p.Name = "ab" })
	add(func(p *api.Package) { p.Version = "1:2-03" })
	add(func(p *api.Package) { p.Essential = false })
	add(func(p *api.Package) { p.Depends = nil })
	add(func(p *api.Package) { p.Depends = p.Depends[:1] })
	add(func(p *api.Package) { p.Depends[0] = p.Depends[0][:1] })
	add(func(p *api.Package) { p.Depends[0][0].Op = api.OpMore })
	add(func(p *api.Package) { p.Depends[0][0].Version = "1.0" })
	add(func(p *api.Package) { p.Depends[0][1].Name = "cd" })
	add(func(p *api.Package) { slices.Reverse(p.Depends) })
	add(func(p *api.Package) { slices.Reverse(p.Depends[0]) })
	add(func(p *api.Package) { p.PreDepends = p.Depends })
	add(func(p *api.Package) { p.PreDepends[0][0].Version = "0" })
	add(func(p *api.Package) { p.PreDepends = append(p.PreDepends, p.PreDepends[0]) })
	add(func(p *api.Package) { p.Conflicts = p.Conflicts[:1] })
	add(func(p *api.Package) { p.Conflicts[1].Name = "f3" })
	add(func(p *api.Package) { slices.Reverse(p.Conflicts) })
	add(func(p *api.Package) { p.Provides = nil })
	add(func(p *api.Package) { p.Provides[1] = "hi" })
	add(func(p *api.Package) { p.Provides = append(p.Provides, "gg") })
	add(func(p *api.Package) { p.Files = p.Files[:2] })
	add(func(p *api.Package) { p.Files[0].Path = "aa" })
	add(func(p *api.Package) { p.Files[1].Size = 1 })
	add(func(p *api.Package) { p.Files[2].Sum[31] = 1 })
	add(func(p *api.Package) { p.Archive = "pool/ab" })
	add(func(p *api.Package) { p.Size = 78 })
	add(func(p *api.Package) { p.Sum[0] = 1 })
	add(func(p *api.Package) { p.Summary = "" })
	return list
}

// P4.4: Same looks at all fields; nil is as empty.
func TestSame(t *testing.T) {
	all := append(changes(), whole(), lean(), api.Package{})
	for i, a := range all {
		for j, b := range all {
			if got := control.Same(a, b); got != (i == j) {
				t.Errorf("P4.4: Same(%+v, %+v) = %t", a, b, got)
			}
		}
	}
	hollow := lean()
	hollow.Depends, hollow.PreDepends, hollow.Conflicts, hollow.Provides, hollow.Files = []api.Clause{}, []api.Clause{}, []api.Atom{}, []string{}, []api.File{}
	if !control.Same(lean(), hollow) || !control.Same(hollow, lean()) {
		t.Error("P4.4: Same of nil and empty lists")
	}
	if a, b := (api.Package{Depends: []api.Clause{nil}}), (api.Package{Depends: []api.Clause{{}}}); !control.Same(a, b) || control.Same(a, api.Package{}) {
		t.Error("P4.4: Same of a nil and an empty clause")
	}
}

// P4.2, P4.5: all packages that are whole but for one thing print, and read back; no two have one text.
func TestBack(t *testing.T) {
	seen := map[string]int{}
	for i, p := range append(changes(), whole(), lean()) {
		holdBack(t, p)
		text, _ := control.Print(p)
		if before, ok := seen[string(text)]; ok {
			t.Errorf("P4.5: the packages %d and %d have one text", before, i)
		}
		seen[string(text)] = i
	}
}

// spoilFields writes over all that fields have, and behind it.
func spoilFields(fields []api.Field) {
	for i, f := range fields {
		for j := range f.Lines {
			f.Lines[j] = "spoilt"
		}
		for j := range f.At {
			f.At[j] = -1
		}
		_, _ = append(f.Lines, "spoilt"), append(f.At, -1)
		fields[i] = line("Spoilt")
	}
	_ = append(fields, line("Spoilt"))
}

// Memory: a package that is handed in is left as it is, and what is answered is the caller's.
func TestPackageMemory(t *testing.T) {
	p := samples.RoomyPackage(whole())
	before := samples.Extent(p)
	control.Check(p)
	control.Key(p)
	control.Same(p, p)
	fields, _ := control.Fields(p)
	text, _ := control.Print(p)
	if !reflect.DeepEqual(samples.Extent(p), before) {
		t.Fatal("Memory: a call writes into the package that it was given")
	}
	samples.Spoil(p)
	if back, _, e := control.Read(fields); e != api.OK || !control.Same(back, whole()) {
		t.Error("Memory: what is written into a package changes its fields")
	}
	spoilFields(fields)
	if string(text) != wholeText {
		t.Error("Memory: what is written into a package or its fields changes its text")
	}
	for i := range text {
		text[i] = '!'
	}
	_ = append(text, '!')
	if again, _ := control.Print(whole()); string(again) != wholeText {
		t.Error("Memory: what is written into a text changes another")
	}
	if again, _ := control.Fields(whole()); len(again) != 12 || again[0].Lines[0] != "aa" {
		t.Error("Memory: what is written into fields changes others")
	}
}

// Memory: no list of a paragraph that is answered runs into another's room.
func TestFieldsApart(t *testing.T) {
	fields, _ := control.Fields(whole())
	for i := range fields {
		fields[i].Lines = append(fields[i].Lines, "more")
	}
	for i, f := range fields {
		if n := len(f.Lines); f.Lines[n-1] != "more" || n > 2 && f.Name != "Files" || strings.Contains(f.Lines[0], "more") {
			t.Errorf("Memory: the field %d is %#v", i, f)
		}
	}
}
