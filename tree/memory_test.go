package tree_test

import (
	"slices"
	"testing"

	"larder/api"
	"larder/samples"
	"larder/tree"
)

// apart tells whether lists, the room beyond their ends included, share no memory: each is written over with a text of its own.
func apart(lists [][]string) bool {
	for i, list := range lists {
		samples.Fill(list, string(rune('A'+i)))
	}
	for i, list := range lists {
		for _, text := range samples.Room(list) {
			if text != string(rune('A'+i)) {
				return false
			}
		}
	}
	return true
}

var (
	beyondFile = api.File{Path: "beyond/", Size: 7}
	beyondStep = api.Step{Kind: 7, From: "beyond", To: "beyond"}
)

func roomyPackages(text string) []api.Package {
	ps := samples.Roomy(packagesOf(text), api.Package{Name: "beyond", Files: []api.File{beyondFile}})
	for i, p := range ps {
		ps[i] = samples.RoomyPackage(p)
	}
	return ps
}

// extent tells a copy of all that packages and their files have room for.
func extent(ps []api.Package) string {
	ps = samples.Room(ps)
	for i, p := range ps {
		ps[i] = samples.Extent(p)
	}
	return told(ps)
}

func spoil(ps []api.Package) {
	for _, p := range ps[:cap(ps)] {
		samples.Spoil(p)
	}
	samples.Fill(ps, api.Package{Name: "spoiled", Files: []api.File{{Path: "/"}}})
}

// P17.12: packages that are handed to Manifest and Steps; what these answer.
func TestMemoryOfPackages(t *testing.T) {
	t.Parallel()
	const goes, comes = "aa y=1 x=2; bb w=3", "cc z=4 y=5; dd a=6"
	out, in := roomyPackages(goes), roomyPackages(comes)
	wasOut, wasIn := extent(out), extent(in)
	wantFiles, wantSteps := filesOf("a=6 y=5 z=4"), stepsOf("n/3.0>t/z n/3.1>t/y n/3.2>t/a t/w t/x")
	files, e := tree.Manifest(in)
	again, _ := tree.Manifest(in)
	steps, f := tree.Steps(3, out, in)
	stepsAgain, _ := tree.Steps(3, out, in)
	if e != api.OK || f != api.OK || told(files) != told(wantFiles) || told(steps) != told(wantSteps) {
		t.Fatalf("P17.12: %v, %v, %v, %v", files, e, steps, f)
	}
	if extent(out) != wasOut || extent(in) != wasIn {
		t.Error("P17.12: what was handed in is changed")
	}
	samples.Fill(files, beyondFile)
	samples.Fill(steps, beyondStep)
	if extent(out) != wasOut || extent(in) != wasIn || told(again) != told(wantFiles) || told(stepsAgain) != told(wantSteps) {
		t.Error("P17.12: what is answered is shared")
	}
	spoil(out)
	spoil(in)
	if told(again) != told(wantFiles) || told(stepsAgain) != told(wantSteps) {
		t.Error("P17.12: what was handed in is kept")
	}
	one := []api.Package{{Files: samples.Roomy(filesOf("a=1 b=2"), beyondFile)}} // in order already
	files, _ = tree.Manifest(one)
	samples.Fill(files, beyondFile)
	if told(one[0].Files) != told(filesOf("a=1 b=2")) {
		t.Error("P17.12: Manifest answers the list that it was handed")
	}
}

// P17.12: files that are handed to Differ and Twins; what these and Look answer.
func TestMemoryOfFiles(t *testing.T) {
	t.Parallel()
	d := diskOf("t/a=1 t/b=2 t/c=3 t/d=3 n/0.0=1")
	s := d.store(99)
	files := samples.Roomy(filesOf("z=1 c=1 b=1 y=2 x=2 b=1"), beyondFile)
	was := told(samples.Room(files))
	twins := tree.Twins(files)
	want := [][]string{{"b", "c", "z"}, {"x", "y"}}
	if told(twins) != told(want) || told(samples.Room(files)) != was {
		t.Fatalf("P17.12: Twins = %q, or what it was handed is changed", twins)
	}
	samples.Fill(files, beyondFile)
	if told(twins) != told(want) {
		t.Error("P17.12: Twins keeps what it was handed")
	}
	if !apart(twins) {
		t.Error("P17.12: lists that Twins answers share memory")
	}
	files = samples.Roomy(filesOf("z=1 c=1 b=1 y=2"), beyondFile)
	was = told(samples.Room(files))
	missing, changed, extra, _ := tree.Differ(s, files)
	if told(missing, changed, extra) != told([]string{"y", "z"}, []string{"b", "c"}, []string{"a", "d"}) || told(samples.Room(files)) != was {
		t.Fatalf("P17.12: Differ = %q, %q, %q, or what it was handed is changed", missing, changed, extra)
	}
	if !apart([][]string{missing, changed, extra}) {
		t.Error("P17.12: lists that Differ answers share memory")
	}
	found, _ := tree.Look(s)
	samples.Fill(found, beyondFile)
	if again, _ := tree.Look(s); told(again) != told(d.lying()) || seen(s) != d.String() {
		t.Errorf("P17.12: Look keeps what it answered: %v", again)
	}
}

// P17.12: a file's bytes.
func TestMemoryOfRead(t *testing.T) {
	t.Parallel()
	d := diskOf("t/a=123 t/b=123")
	s := d.store(99)
	first, _, _ := tree.Read(s, file("a", "123"))
	second, _, _ := tree.Read(s, file("a", "123"))
	samples.Fill(first, '?')
	if string(second) != "123" || seen(s) != d.String() {
		t.Errorf("P17.12: Read shares what it answers: %q, %q", second, seen(s))
	}
	s.Append("t/a", []byte("4"))
	s.Write("t/a", []byte("xyz"))
	if string(second) != "123" {
		t.Errorf("P17.12: what Read answered changes later: %q", second)
	}
}

// P17.12: contents that are staged, and steps.
func TestMemoryOfSteps(t *testing.T) {
	t.Parallel()
	s := diskOf("t/x=1").store(99)
	contents := samples.RoomyRows(rows("=12 = =345"), '!')
	was := told(samples.RoomOfRows(contents))
	if e := tree.Stage(s, 3, contents); e != api.OK || told(samples.RoomOfRows(contents)) != was {
		t.Fatalf("P17.12: Stage: %v, or what it was handed is changed", e)
	}
	samples.FillRows(contents, '?')
	if seen(s) != "n/3.0=12 n/3.1= n/3.2=345 t/x=1" {
		t.Errorf("P17.12: Stage keeps what it was handed: %q", seen(s))
	}
	steps := samples.Roomy(stepsOf("n/3.2>t/b n/3.0>t/a t/x"), beyondStep)
	was = told(samples.Room(steps))
	tree.Check(steps)
	if n, e := tree.Clean(s, steps); n != 1 || e != api.OK {
		t.Errorf("P17.10: Clean: %d, %v", n, e)
	}
	if n, e := tree.Do(s, steps); n != 3 || e != api.OK || told(samples.Room(steps)) != was {
		t.Errorf("P17.12: Do: %d, %v, or what it was handed is changed", n, e)
	}
	samples.Fill(steps, beyondStep)
	if seen(s) != "t/a=12 t/b=345" {
		t.Errorf("P17.12: what was handed in is kept: %q", seen(s))
	}
	s.Sync()
	s.Crash(api.Choice{})
	if seen(s) != "t/a=12 t/b=345" {
		t.Errorf("P17.12: behind a crash %q", seen(s))
	}
}

// P17.2 to P17.10: nil and empty are one, and empty lists with room.
func TestNilAndEmpty(t *testing.T) {
	t.Parallel()
	for _, ps := range [][]api.Package{nil, {}, make([]api.Package, 0, 3), {{Name: "aa"}}, {{Name: "aa", Files: []api.File{}}}} {
		if files, e := tree.Manifest(ps); len(files) != 0 || e != api.OK {
			t.Errorf("P17.2: Manifest = %v, %v", files, e)
		}
		if steps, e := tree.Steps(0, ps, ps); len(steps) != 0 || e != api.OK {
			t.Errorf("P17.6: Steps = %v, %v", steps, e)
		}
	}
	for _, files := range [][]api.File{nil, {}, make([]api.File, 0, 3)} {
		if groups := tree.Twins(files); len(groups) != 0 {
			t.Errorf("P17.5: Twins = %q", groups)
		}
		missing, changed, extra, e := tree.Differ(diskOf("t/a=1").store(9), files)
		if len(missing)+len(changed) != 0 || !slices.Equal(extra, []string{"a"}) || e != api.OK {
			t.Errorf("P17.3: Differ = %q, %q, %q, %v", missing, changed, extra, e)
		}
	}
	for _, steps := range [][]api.Step{nil, {}, make([]api.Step, 0, 3)} {
		s := diskOf("n/0.0=1").store(9)
		if e := tree.Check(steps); e != api.OK {
			t.Errorf("P17.7: Check = %v", e)
		}
		if n, e := tree.Do(s, steps); n != 0 || e != api.OK {
			t.Errorf("P17.9: Do = %d, %v", n, e)
		}
		if n, e := tree.Clean(s, steps); n != 1 || e != api.OK {
			t.Errorf("P17.10: Clean = %d, %v", n, e)
		}
	}
	for _, contents := range [][][]byte{{nil}, {{}}, {make([]byte, 0, 3)}} {
		s := diskOf("").store(0)
		if e := tree.Stage(s, 0, contents); e != api.OK || seen(s) != "n/0.0=" {
			t.Errorf("P17.8: Stage = %v, %q", e, seen(s))
		}
	}
}
