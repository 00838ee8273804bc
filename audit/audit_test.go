package audit_test

import (
	"math"
	"slices"
	"strings"
	"testing"

	"larder/api"
	"larder/audit"
	"larder/samples"
	"larder/store"
)

// The chapter's examples.
func TestExamples(t *testing.T) {
	t.Parallel()
	s, x, archives := install("aa 1 x:hi y:ho")
	held := x.State().Held
	for _, c := range []struct {
		what    string
		changes []change
		want    string
	}{
		{"the tree as it should be", nil, ""},
		{"without t/y", []change{drop("t/y")}, "missing y aa 1"},
		{"t/x with ha", []change{lay("t/x", "ha")}, "sum x aa 1; missing y aa 1"},
		{"t/x with hah", []change{lay("t/x", "hah")}, "size x aa 1; missing y aa 1"},
		{"three besides", []change{lay("t/z", ""), lay("n/9.0", ""), lay("d/status.new", "")}, "size x aa 1; missing y aa 1; stray z; staged n/9.0; other d/status.new"},
	} {
		do(s, c.changes...)
		if got := holdCheck(t, c.what, s, held); !slices.Equal(got, wrongs(c.want)) {
			t.Errorf("P21.1: %s: Check = %v, want %v", c.what, got, wrongs(c.want))
		}
	}
	wrong := wrongs("missing y aa 1; stray z")
	w, left := holdPlan(t, "with the archive", held, wrong, archives)
	if told(w) != told(api.Work{Mend: samples.Blobs("y:ho")}) || !slices.Equal(left, wrong[1:]) {
		t.Errorf("P21.2: Plan = %v, %v", w, left)
	}
	w, left = holdPlan(t, "without archives", held, wrong, nil)
	if told(w) != told(api.Work{}) || !slices.Equal(left, wrong) {
		t.Errorf("P21.2: Plan = %v, %v", w, left)
	}
	if k, ok := audit.Owner(held, "x"); k != (api.Key{Name: "aa", Version: "1"}) || !ok {
		t.Errorf("P21.3: Owner of x = %v, %v", k, ok)
	}
	if k, ok := audit.Owner(held, "z"); k != (api.Key{}) || ok {
		t.Errorf("P21.3: Owner of z = %v, %v", k, ok)
	}
}

// noStates are lists of packages that no state may have, by what is wrong with them.
func noStates() map[string][]api.Held {
	return map[string][]api.Held{
		"names that fall":                       samples.AllHeld("bb 1; aa 1"),
		"names that fall, though versions rise": samples.AllHeld("aa1 1; aa 9"),
		"names that rise, then fall":            samples.AllHeld("aa 1; cc 1; bb 1 x:hi"),
		"a name twice":                          samples.AllHeld("aa 1; aa 2"),
		"a package twice":                       samples.AllHeld("aa 1; aa 1"),
		"a Depends that is not met":             samples.AllHeld("aa 1 depends=bb x:hi; cc 1"),
		"a Depends that is met too low":         samples.AllHeld("aa 1 depends=bb(>=2); bb 1 x:hi"),
		"a Pre-Depends that is not met":         samples.AllHeld("aa 1 pre=bb"),
		"a Pre-Depends that its package meets":  samples.AllHeld("aa 1 pre=aa"),
		"a conflict":                            samples.AllHeld("aa 1 conflicts=bb; bb 1"),
		"a conflict with what is provided":      samples.AllHeld("aa 1 conflicts=mail; bb 1 provides=mail"),
		"a path of two":                         samples.AllHeld("aa 1 x:hi; bb 1 x:hi"),
		"a path twice in one":                   samples.AllHeld("aa 1 x:hi x:hi"),
		"all at once":                           samples.AllHeld("bb 1 x:hi; aa 1 depends=cc x:hi; aa 2"),
	}
}

// states are lists of packages that a state may have, though no work might install them.
func states() map[string][]api.Held {
	return map[string][]api.Held{
		"none":                                  nil,
		"an empty list":                         {},
		"one":                                   samples.AllHeld("aa 1 x:hi"),
		"marks":                                 samples.AllHeld("aa 1 auto x:hi; bb 1"),
		"a Depends that is met":                 samples.AllHeld("aa 1 depends=bb; bb 1 x:hi"),
		"a Depends that is provided":            samples.AllHeld("aa 1 depends=mail; bb 1 provides=mail x:hi"),
		"a Depends of its own":                  samples.AllHeld("aa 1 depends=aa"),
		"a Pre-Depends that is met":             samples.AllHeld("aa 1 pre=bb; bb 1"),
		"a conflict with itself":                samples.AllHeld("aa 1 conflicts=aa"),
		"a conflict with an older one":          samples.AllHeld("aa 1 conflicts=bb(<<1); bb 1"),
		"a path below another":                  samples.AllHeld("aa 1 x:hi; bb 1 x/y:hi"),
		"a mark that is none":                   {{Package: api.Package{Name: "aa", Version: "1"}, Mark: 7}},
		"a package that may not be":             {{Package: api.Package{Name: "", Version: "no version"}}},
		"names in the order of bytes":           samples.AllHeld("a.b 1; a0b 1; aab 1; abb 1"),
		"names that rise, though versions fall": samples.AllHeld("aa 9; aa1 1 x:hi"),
		"a name that begins another":            samples.AllHeld("aa 1; aaa 1 x:hi"),
		"paths and sizes that are none":         {{Package: api.Package{Name: "aa", Files: []api.File{{Path: "z", Size: -1}, {Path: ""}, {Path: "a b"}}}}},
	}
}

// P21.1, P21.2: which error comes first.
func TestErrors(t *testing.T) {
	t.Parallel()
	dead := samples.Disk(map[string]string{"t/x": "hi"}, room)
	dead.Fuse(0)
	dead.Sync()
	disk := samples.Disk(map[string]string{"t/x": "ha", "t/z": "", "n/9.0": "", "d/status": "odd"}, room)
	_, archives := samples.AllMade("aa 1 x:hi; bb 1 x:hi")
	wrong := wrongs("missing x aa 1; stray z")
	for want, lists := range map[api.Errno]map[string][]api.Held{api.OK: states(), api.ErrAudState: noStates()} {
		for what, held := range lists {
			for i, s := range []*store.Store{nil, dead, {}, disk} {
				f := []api.Errno{api.ErrArg, api.ErrStoDead, want, want}[i]
				if list, e := audit.Check(s, held); e != f || e != api.OK && len(list) > 0 {
					t.Errorf("P21.1: %s: Check of the store %d = %v, %d, want %d", what, i, list, e, f)
				}
				holdCheck(t, what, s, held)
			}
			for _, wrong := range [][]api.Wrong{nil, wrong} {
				if w, left, e := audit.Plan(held, wrong, archives); e != want || e != api.OK && (len(left) > 0 || !sameWork(w, api.Work{})) {
					t.Errorf("P21.2: %s: Plan = %v, %v, %d, want %d", what, w, left, e, want)
				}
				holdPlan(t, what, held, wrong, archives)
			}
		}
	}
}

// P21.1: a store without files, and one that nobody has made.
func TestNothing(t *testing.T) {
	t.Parallel()
	for _, s := range []*store.Store{samples.Must(store.New(0)), {}} {
		if got := holdCheck(t, "no files, no packages", s, nil); len(got) > 0 {
			t.Errorf("P21.1: Check = %v", got)
		}
		if got := holdCheck(t, "no files", s, samples.AllHeld("aa 1 y:1 x:; bb 1 a:1")); !slices.Equal(got, wrongs("missing x aa 1; missing y aa 1; missing a bb 1")) {
			t.Errorf("P21.1: Check = %v", got)
		}
	}
}

// P21.1: what each name of the store is, alone and among all others.
func TestNames(t *testing.T) {
	t.Parallel()
	held := samples.AllHeld("aa 1 usr/x:hi")
	held[0].Files = append(held[0].Files, samples.File("", "hi")) // a path that may not be, of which a store can have the name
	files := map[string]string{"t/usr/x": "hi", "t/": "hi"}
	long := strings.Repeat("l", api.MaxPath)
	for name, want := range map[string]string{
		"t/z": "stray z", "t/usr": "stray usr", "t/usr/x/y": "stray usr/x/y", "t/usr/xx": "stray usr/xx", "t/usr//x": "stray usr//x", "t//usr/x": "stray /usr/x",
		"t//": "stray /", "t/.": "stray .", "t/../d/status": "stray ../d/status", "t/n/1.0": "stray n/1.0", "t/t/usr/x": "stray t/usr/x", "t/" + long: "stray " + long,
		"n/": "staged n/", "n/1.0": "staged n/1.0", "n/9.12": "staged n/9.12", "n/07.0": "staged n/07.0", "n/x": "staged n/x", "n/t/usr/x": "staged n/t/usr/x", "n/" + long: "staged n/" + long,
		"d/status": "", "d/journal": "",
		"d/status.new": "other d/status.new", "d/statu": "other d/statu", "d/status/": "other d/status/", "d/journal.new": "other d/journal.new", "d/journa": "other d/journa", "d/": "other d/", "d": "other d", "d/other": "other d/other",
		"t": "other t", "n": "other n", "x": "other x", "T/x": "other T/x", "N/1.0": "other N/1.0", "D/status": "other D/status", "/t/usr/x": "other /t/usr/x", "./t/usr/x": "other ./t/usr/x",
		"tt/usr/x": "other tt/usr/x", "nn/1.0": "other nn/1.0", "status": "other status", "usr/x": "other usr/x", "~": "other ~", "!": "other !", long + "ll": "other " + long + "ll",
	} {
		alone := map[string]string{"t/usr/x": "hi", "t/": "hi", name: "odd"}
		if got := holdCheck(t, name, samples.Disk(alone, room), held); !slices.Equal(got, wrongs(want)) {
			t.Errorf("P21.1: with %s: Check = %v, want %v", name, got, wrongs(want))
		}
		files[name] = ""
	}
	got := holdCheck(t, "all names", samples.Disk(files, room), held)
	if counts := audit.Summary(got); counts != [7]int{0, 0, 0, 0, 12, 7, 23} {
		t.Errorf("P21.1: of all names Check tells %v", counts)
	}
	got = holdCheck(t, "nothing installed", samples.Disk(files, room), nil)
	if counts := audit.Summary(got); counts != [7]int{0, 0, 0, 0, 14, 7, 23} || got[0] != (api.Wrong{Kind: api.WrongStray}) {
		t.Errorf("P21.1: of all names without packages Check tells %v", counts)
	}
}

// P21.1: files of packages that may not be: their order, their sizes, their paths.
func TestOddFiles(t *testing.T) {
	t.Parallel()
	hi := samples.File("", "hi")
	long := strings.Repeat("l", api.MaxPath+1)
	held := []api.Held{{Package: api.Package{Name: "aa", Version: "1", Files: []api.File{
		{Path: "z", Size: 2, Sum: hi.Sum}, {Path: "size", Size: 3, Sum: hi.Sum}, {Path: "sum", Size: 2, Sum: hi.Sum}, {Path: "below", Size: -1, Sum: hi.Sum},
		{Path: "a b", Size: 2, Sum: hi.Sum}, {Path: long, Size: 2, Sum: hi.Sum}, {Path: "..", Size: 2, Sum: hi.Sum}, {Path: "", Size: 2, Sum: hi.Sum}, {Path: "\x00", Size: 2, Sum: hi.Sum}, {Path: "a/", Size: math.MaxInt, Sum: hi.Sum},
	}}}}
	s := samples.Disk(map[string]string{"t/z": "hi", "t/size": "hi", "t/sum": "ho", "t/below": "", "t/..": "hi", "t/": "hi", "t/a/": "hi"}, room)
	got := holdCheck(t, "odd files", s, held)
	var paths []string
	for _, w := range got {
		paths = append(paths, kinds[w.Kind]+" "+w.Path)
	}
	if want := []string{"missing \x00", "missing a b", "size a/", "size below", "missing " + long, "size size", "sum sum"}; !slices.Equal(paths, want) {
		t.Errorf("P21.1: Check = %q, want %q", paths, want)
	}
}

// P21.1: all states of four files of three packages, with all choices of three others: as the oracle has it.
func TestSmall(t *testing.T) {
	t.Parallel()
	held := samples.AllHeld("aa 1 x:hi y:; bb 2; cc 3 a:ho b/c:hi")
	var counts [7]int
	for _, x := range []string{"-", "hi", "ha", "hah", "h", ""} {
		for _, y := range []string{"-", "", "1", "hi"} {
			for _, a := range []string{"-", "ho", "hi", ""} {
				for _, bc := range []string{"-", "hi", "ho", "h"} {
					for besides := range 8 {
						files := map[string]string{"d/status": "odd"}
						for name, data := range map[string]string{"t/x": x, "t/y": y, "t/a": a, "t/b/c": bc} {
							if data != "-" {
								files[name] = data
							}
						}
						for i, name := range []string{"t/b", "n/9.0", "d/other"} {
							if besides>>i&1 == 1 {
								files[name] = ""
							}
						}
						got := holdCheck(t, told(files), samples.Disk(files, room), held)
						for kind, n := range audit.Summary(got) {
							counts[kind] += n
						}
					}
				}
			}
		}
	}
	const all = 6 * 4 * 4 * 4 * 8
	if counts != [7]int{0, all/6 + 3*all/4, 3*all/6 + 2*all/4 + 2*all/4, all/6 + 2*all/4, all / 2, all / 2, all / 2} {
		t.Errorf("P21.1: Check tells %v", counts)
	}
}

// P21.3: how many there are of each kind.
func TestSummary(t *testing.T) {
	t.Parallel()
	for _, c := range []struct {
		kinds []int
		want  [7]int
	}{
		{nil, [7]int{}},
		{[]int{1}, [7]int{1: 1}},
		{[]int{6, 6, 6}, [7]int{6: 3}},
		{[]int{1, 2, 3, 4, 5, 6}, [7]int{0, 1, 1, 1, 1, 1, 1}},
		{[]int{6, 1, 5, 1, 4, 4, 2, 3, 3, 3}, [7]int{0, 2, 1, 3, 2, 1, 1}},
		{[]int{0}, [7]int{1}},
		{[]int{0, 7, -1, 8, math.MaxInt, math.MinInt, 1 << 32, 1<<32 + 1, 256, 257}, [7]int{10}},
		{[]int{7, 6, 0, 1, -1}, [7]int{0: 3, 1: 1, 6: 1}},
	} {
		var list []api.Wrong
		for i, kind := range c.kinds {
			list = append(list, api.Wrong{Kind: kind, Path: []string{"", "x", "t/x"}[i%3], Who: api.Key{Name: []string{"", "aa"}[i%2]}})
		}
		if got := audit.Summary(list); got != c.want {
			t.Errorf("P21.3: Summary of %v = %v, want %v", c.kinds, got, c.want)
		}
	}
}

// P21.3: whose a path is, of any packages.
func TestOwner(t *testing.T) {
	t.Parallel()
	for _, c := range []struct{ held, path, want string }{
		{"", "x", ""},
		{"", "", ""},
		{"aa 1", "x", ""},
		{"aa 1 x:hi", "x", "aa 1"},
		{"aa 1 x:hi", "", ""},
		{"aa 1 x:hi", "t/x", ""},
		{"aa 1 x:hi", "X", ""},
		{"aa 1 x:hi", "x/", ""},
		{"aa 1 x/y:hi", "x", ""},
		{"aa 1 x:hi xx:ho xxx:", "xxx", "aa 1"},
		{"aa 1 x:hi; bb 2 y:ho", "y", "bb 2"},
		{"aa 1 x:hi; bb 2 x:ho", "x", "aa 1"},
		{"bb 2 x:ho; aa 1 x:hi", "x", "bb 2"},
		{"bb 2 y:; bb 1 x:ho; aa 1 x:hi; bb 1 x:", "x", "bb 1"},
		{"aa 2 z: x:1 x:2; aa 1 x:", "x", "aa 2"},
		{"aa 1 depends=zz conflicts=aa pre=aa x:", "x", "aa 1"},
		{"aa 1 auto a: b: c:; bb 1 essential d: e: f:", "f", "bb 1"},
	} {
		k, ok := audit.Owner(samples.AllHeld(c.held), c.path)
		name, version, is := strings.Cut(c.want, " ")
		if k != (api.Key{Name: name, Version: version}) || ok != is {
			t.Errorf("P21.3: Owner of %q in %q = %v, %v, want %q", c.path, c.held, k, ok, c.want)
		}
	}
	odd := []api.Held{{Package: api.Package{Files: []api.File{{Path: ""}}}}, {Package: api.Package{Name: "aa", Files: []api.File{{Path: ""}, {Path: "a b"}}}}}
	if k, ok := audit.Owner(odd, ""); k != (api.Key{}) || !ok {
		t.Errorf("P21.3: Owner of no path, of a package without a name = %v, %v", k, ok)
	}
	if k, ok := audit.Owner(odd, "a b"); k != (api.Key{Name: "aa"}) || !ok {
		t.Errorf("P21.3: Owner of an odd path = %v, %v", k, ok)
	}
}
