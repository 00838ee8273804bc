package tree_test

import (
	"testing"

	"larder/api"
	"larder/samples"
	"larder/tree"
)

func holdManifest(t *testing.T, ps []api.Package) api.Errno {
	t.Helper()
	got, e := tree.Manifest(ps)
	want, wantE := manifest(ps)
	if e != wantE || told(got) != told(want) {
		t.Errorf("P17.2: Manifest(%v) = %v, %v, want %v, %v", ps, got, e, want, wantE)
	}
	return e
}

func TestManifest(t *testing.T) {
	t.Parallel()
	for _, c := range []struct {
		packages, want string
		e              api.Errno
	}{
		{"", "", api.OK},
		{"aa", "", api.OK},
		{"aa; bb; aa", "", api.OK},
		{"aa b=1; bb a=2", "a=2 b=1", api.OK},
		{"aa b=1; bb; cc a=2", "a=2 b=1", api.OK},
		{"aa a/b=1 a=2 a!=3 B=4 ab=", "B=4 a=2 a!=3 a/b=1 ab=", api.OK},
		{"aa a=1; aa b=1", "a=1 b=1", api.OK},
		{"aa a=1 a=1", "", api.ErrTreeTwice},
		{"aa a=1 a=2", "", api.ErrTreeTwice},
		{"aa a=1 b=1 a=1", "", api.ErrTreeTwice},
		{"aa a=1; bb a=1", "", api.ErrTreeTwice},
		{"aa a=1; bb b=; cc a=2", "", api.ErrTreeTwice},
		{"aa a=1; aa a=1", "", api.ErrTreeTwice},
		{"aa /a=1", "", api.ErrTreePath},
		{"aa =1", "", api.ErrTreePath},
		{"aa a=1; bb a=1; cc a/=1", "", api.ErrTreePath},
		{"aa a=1 a=1 .=1", "", api.ErrTreePath},
		{"aa a=1 a=1; bb ..=1", "", api.ErrTreePath},
		{"aa ..=1; bb a=1 a=1", "", api.ErrTreePath},
		{"aa /=1 /=1", "", api.ErrTreePath},
	} {
		ps := packagesOf(c.packages)
		if got, e := tree.Manifest(ps); e != c.e || told(got) != told(filesOf(c.want)) {
			t.Errorf("P17.2: Manifest(%q) = %v, %v, want %q, %v", c.packages, got, e, c.want, c.e)
		}
		holdManifest(t, ps)
	}
}

// P17.2: sizes and sums are told as they are, whatever they say.
func TestManifestTellsFiles(t *testing.T) {
	t.Parallel()
	odd := []api.File{{Path: "c", Size: -1, Sum: [32]byte{9}}, {Path: "b", Size: 1 << 40}, {Path: "a", Sum: [32]byte{31: 1}}}
	want := []api.File{odd[2], odd[1], odd[0]}
	if got, e := tree.Manifest([]api.Package{{Files: odd[:1]}, {Name: "/", Files: odd[1:]}}); e != api.OK || told(got) != told(want) {
		t.Errorf("P17.2: Manifest = %v, %v, want %v", got, e, want)
	}
}

// P17.2: all small sets of packages.
func TestSmallManifests(t *testing.T) {
	t.Parallel()
	answered := map[api.Errno]int{}
	files := append(filesOf("a=1 a=2 b=1 a/b="), api.File{Path: "a/"})
	for _, first := range samples.Lists(files, 3) {
		for _, second := range samples.Lists(files, 2) {
			answered[holdManifest(t, []api.Package{{Name: "aa", Files: first}, {Name: "bb", Files: second}})]++
		}
	}
	for _, e := range []api.Errno{api.OK, api.ErrTreePath, api.ErrTreeTwice} {
		if answered[e] < 50 {
			t.Errorf("P17.2: %v is answered only %d times", e, answered[e])
		}
	}
}

func TestTwins(t *testing.T) {
	t.Parallel()
	for _, c := range []struct {
		files string
		want  [][]string
	}{
		{"", nil},
		{"a=1", nil},
		{"a=1 b=2 c=3", nil},
		{"a=1 a=1", nil}, // one path
		{"a=1 a=2", nil},
		{"a=1 b=1", [][]string{{"a", "b"}}},
		{"b=1 a=1 b=1", [][]string{{"a", "b"}}},
		{"c=1 b=2 a=1 d=2 a=1 e=3", [][]string{{"a", "c"}, {"b", "d"}}},
		{"d=1 c=1 b=1 a=1", [][]string{{"a", "b", "c", "d"}}},
		{"z= b=2 y= a=2 x= c=2", [][]string{{"a", "b", "c"}, {"x", "y", "z"}}},
		{"a=1 b=1 c=1 a=2 b=2", [][]string{{"a", "b"}, {"a", "b", "c"}}},
		{"a=2 b=2 a=1 b=1 c=1", [][]string{{"a", "b"}, {"a", "b", "c"}}},
		{"a=1 c=1 a=2 b=2 d=2", [][]string{{"a", "b", "d"}, {"a", "c"}}},
		{"a=1 b=1 a=2 b=2", [][]string{{"a", "b"}, {"a", "b"}}},
		{"a=1 b=1 d=1 a=2 b=2 c=2 e=2", [][]string{{"a", "b", "c", "e"}, {"a", "b", "d"}}},
		{"a/b=1 a=1 a!=2 B=2", [][]string{{"B", "a!"}, {"a", "a/b"}}},
		{"a/b=1 a=1 ab=2 a=2", [][]string{{"a", "a/b"}, {"a", "ab"}}},
		{"a!=1 y=1 a=2 z=2", [][]string{{"a", "z"}, {"a!", "y"}}}, // path by path, not as one text
		{"/=1 =1 ..=1", [][]string{{"", "..", "/"}}},              // paths are not looked at
	} {
		if got := tree.Twins(filesOf(c.files)); told(got) != told(c.want) {
			t.Errorf("P17.5: Twins(%q) = %q, want %q", c.files, got, c.want)
		}
		if want := twins(filesOf(c.files)); told(want) != told(c.want) {
			t.Errorf("P17.5: the oracle tells %q of %q, want %q", want, c.files, c.want)
		}
	}
}

// P17.5: one sum with two sizes, and one size with sums that differ in one bit, are no twins.
func TestAlmostTwins(t *testing.T) {
	t.Parallel()
	list := []api.File{{Path: "a", Size: 1}, {Path: "b", Size: 2}, {Path: "c", Size: -1}, {Path: "d", Size: 1 << 32}}
	for i := range 256 {
		f := api.File{Path: string(rune('A'+i/26)) + string(rune('A'+i%26)), Size: 1}
		f.Sum[i/8] = 1 << (i % 8)
		list = append(list, f)
	}
	if got := tree.Twins(list); len(got) != 0 {
		t.Errorf("P17.5: Twins = %q, want none", got)
	}
	for i, f := range list {
		f.Path = "~"
		want := [][]string{{list[i].Path, "~"}}
		if got := tree.Twins(append(list[:len(list):len(list)], f)); told(got) != told(want) {
			t.Errorf("P17.5: Twins = %q, want %q", got, want)
		}
	}
}

// P17.5: all small lists of files, in every order.
func TestSmallTwins(t *testing.T) {
	t.Parallel()
	groups := map[int]int{}
	for _, list := range samples.Lists(filesOf("a=1 a=2 b=1 b=2 c=1 c=2 d=1 d="), 5) {
		got, want := tree.Twins(list), twins(list)
		if told(got) != told(want) {
			t.Fatalf("P17.5: Twins(%v) = %q, want %q", list, got, want)
		}
		groups[len(got)]++
	}
	if groups[0] < 100 || groups[1] < 100 || groups[2] < 100 {
		t.Errorf("P17.5: so many lists with so many groups: %v", groups)
	}
}
