package tree_test

import (
	"math"
	"strings"
	"testing"

	"larder/api"
	"larder/samples"
	"larder/store"
	"larder/tree"
)

func holdSteps(t *testing.T, seq int, out, in []api.Package) api.Errno {
	t.Helper()
	got, e := tree.Steps(seq, out, in)
	want, wantE := stepsBetween(seq, out, in)
	if e != wantE || told(got) != told(want) {
		t.Errorf("P17.6: Steps(%d, %v, %v) = %v, %v, want %v, %v", seq, out, in, got, e, want, wantE)
	}
	if e == api.OK && tree.Check(got) != api.OK {
		t.Errorf("P17.6: Check of Steps(%d, %v, %v): %v", seq, out, in, tree.Check(got))
	}
	return e
}

func TestSteps(t *testing.T) {
	t.Parallel()
	for _, c := range []struct {
		seq           int
		out, in, want string
	}{
		{3, "aa x=1 y=2", "bb y=3 z=4", "n/3.0>t/y n/3.1>t/z t/x"},
		{3, "aa x=1 y=2", "bb z=4 y=3", "n/3.0>t/z n/3.1>t/y t/x"},
		{0, "", "", ""},
		{0, "aa; bb", "aa; cc", ""},
		{0, "aa x=1 y=2", "", "t/x t/y"},
		{0, "aa y=1 x=2", "", "t/x t/y"},
		{0, "bb y=1; aa x=2; cc a=3", "", "t/a t/x t/y"},
		{0, "aa ab= a/b= a!= a= B=", "", "t/B t/a t/a! t/a/b t/ab"},
		{7, "", "aa z=1 b=2", "n/7.0>t/z n/7.1>t/b"},
		{7, "", "bb z=1 b=2; cc; aa y=1; dd a= c=", "n/7.0>t/z n/7.1>t/b n/7.2>t/y n/7.3>t/a n/7.4>t/c"},
		{7, "aa x=1", "aa x=1", "n/7.0>t/x"},
		{7, "aa x=1 y=1", "aa y=1 x=1", "n/7.0>t/y n/7.1>t/x"},
		{7, "aa b=1 d=1; bb a=1 c=1", "cc c=2; dd b=2", "n/7.0>t/c n/7.1>t/b t/a t/d"},
		{7, "aa a=1", "bb a/b=1", "n/7.0>t/a/b t/a"},
		{api.MaxSeq, "aa b=", "aa a=", "n/281474976710655.0>t/a t/b"},
	} {
		got, e := tree.Steps(c.seq, packagesOf(c.out), packagesOf(c.in))
		if e != api.OK || told(got) != told(stepsOf(c.want)) {
			t.Errorf("P17.6: Steps(%d, %q, %q) = %v, %v, want %q", c.seq, c.out, c.in, got, e, c.want)
		}
		holdSteps(t, c.seq, packagesOf(c.out), packagesOf(c.in))
	}
}

// P17.6: which error comes first.
func TestWrongSteps(t *testing.T) {
	t.Parallel()
	const right, again, none, both = "aa a=1", "aa a=1; bb a=2", "aa a/=1", "aa a=1 a=1 /=1"
	for _, c := range []struct {
		seq     int
		out, in string
		want    api.Errno
	}{
		{0, right, right, api.OK},
		{-1, right, right, api.ErrArg}, {api.MaxSeq + 1, right, right, api.ErrArg}, {math.MinInt, "", "", api.ErrArg}, {math.MaxInt, "", "", api.ErrArg},
		{-1, none, again, api.ErrArg}, {api.MaxSeq + 1, again, none, api.ErrArg},
		{0, right, again, api.ErrTreeTwice}, {0, right, none, api.ErrTreePath}, {0, right, both, api.ErrTreePath},
		{0, again, right, api.ErrTreeTwice}, {0, none, right, api.ErrTreePath}, {0, both, right, api.ErrTreePath},
		{0, none, again, api.ErrTreeTwice}, {0, again, none, api.ErrTreePath},
	} {
		if got, e := tree.Steps(c.seq, packagesOf(c.out), packagesOf(c.in)); e != c.want || e != api.OK && got != nil {
			t.Errorf("P17.6: Steps(%d, %q, %q) = %v, %v, want %v", c.seq, c.out, c.in, got, e, c.want)
		}
		holdSteps(t, c.seq, packagesOf(c.out), packagesOf(c.in))
	}
}

// P17.6: all small sets that go and come.
func TestSmallSteps(t *testing.T) {
	t.Parallel()
	answered := map[api.Errno]int{}
	lists := samples.Lists(append(filesOf("a=1 b=1 c=1 a/b=1"), api.File{Path: ".."}), 3)
	for _, out := range lists {
		for _, in := range lists {
			cut, from := len(out)/2, len(in)/2
			goes := []api.Package{{Name: "aa", Files: out[:cut]}, {Name: "bb", Files: out[cut:]}}
			comes := []api.Package{{Name: "cc", Files: in[:from]}, {Name: "dd", Files: in[from:]}}
			answered[holdSteps(t, 5, goes, comes)]++
		}
	}
	for _, e := range []api.Errno{api.OK, api.ErrTreePath, api.ErrTreeTwice} {
		if answered[e] < 500 {
			t.Errorf("P17.6: %v is answered only %d times", e, answered[e])
		}
	}
}

func TestCheck(t *testing.T) {
	t.Parallel()
	rename, remove := api.StepRename, api.StepRemove
	right := []api.Step{
		{Kind: rename, From: "n/3.0", To: "t/y"}, {Kind: remove, To: "t/x"}, {Kind: rename, From: "n/0.0", To: "t/0.0"}, {Kind: rename, From: "n/4.0", To: "t/n/4.0"},
		{Kind: remove, To: "t/t/x"}, {Kind: remove, To: "t/a"}, {Kind: remove, To: "t/a/b"}, {Kind: rename, From: "n/281474976710655.2147483647", To: "t/" + strings.Repeat("a", 256)},
	}
	if e := tree.Check(right); e != api.OK {
		t.Errorf("P17.7: Check = %v", e)
	}
	if e := tree.Check(nil); e != api.OK {
		t.Errorf("P17.7: Check of no steps = %v", e)
	}
	wrong := []api.Step{
		{}, {To: "t/w"}, {Kind: 0, From: "n/1.0", To: "t/w"}, {Kind: 3, From: "n/1.0", To: "t/w"}, {Kind: 3, To: "t/w"}, {Kind: -1, To: "t/w"}, {Kind: -2, To: "t/w"}, {Kind: math.MaxInt, From: "n/1.0", To: "t/w"}, {Kind: math.MinInt, To: "t/w"}, {Kind: 1<<32 + 1, From: "n/1.0", To: "t/w"},
		{Kind: rename}, {Kind: rename, To: "t/w"}, {Kind: rename, From: "n/1.0"}, {Kind: rename, From: "t/v", To: "t/w"}, {Kind: rename, From: "n/01.0", To: "t/w"}, {Kind: rename, From: "n/1", To: "t/w"}, {Kind: rename, From: "n/zz", To: "t/w"}, {Kind: rename, From: "d/status", To: "t/w"}, {Kind: rename, From: "n/1.2147483648", To: "t/w"}, {Kind: rename, From: "n/281474976710656.0", To: "t/w"}, {Kind: rename, From: "1.0", To: "t/w"},
		{Kind: rename, From: "n/1.0", To: "n/1.1"}, {Kind: rename, From: "n/1.0", To: "n/1.0"}, {Kind: rename, From: "n/1.0", To: "d/status"}, {Kind: rename, From: "n/1.0", To: "w"}, {Kind: rename, From: "n/1.0", To: "t/"}, {Kind: rename, From: "n/1.0", To: "t//w"}, {Kind: rename, From: "n/1.0", To: "t/../w"}, {Kind: rename, From: "n/1.0", To: "t/" + strings.Repeat("a", 257)}, {Kind: rename, From: "t/w", To: "n/1.0"},
		{Kind: remove}, {Kind: remove, To: "n/1.0"}, {Kind: remove, To: "d/status"}, {Kind: remove, To: "d/journal"}, {Kind: remove, To: "t/"}, {Kind: remove, To: "t/w/"}, {Kind: remove, To: "w"}, {Kind: remove, From: "n/1.0", To: "t/w"}, {Kind: remove, From: "t/w", To: "t/w"}, {Kind: remove, From: "t/w"}, {Kind: remove, From: "x", To: "t/w"}, {Kind: remove, From: "n/1.0"},
	}
	for _, step := range wrong {
		for at := range len(right) + 1 {
			list := append(append(append([]api.Step{}, right[:at]...), step), right[at:]...)
			if e := tree.Check(list); e != api.ErrTreeStep {
				t.Errorf("P17.7: Check with %+v at %d = %v", step, at, e)
			}
			// ErrTreeStep is ahead of ErrTreeTwice, wherever they are.
			if e := tree.Check(append(list, right...)); e != api.ErrTreeStep {
				t.Errorf("P17.7: Check with %+v at %d, and steps twice = %v", step, at, e)
			}
		}
	}
	for i, a := range right {
		if e := tree.Check([]api.Step{a, a}); e != api.ErrTreeTwice {
			t.Errorf("P17.7: Check of %+v twice = %v", a, e)
		}
		if e := tree.Check(append(right[:len(right):len(right)], a)); e != api.ErrTreeTwice {
			t.Errorf("P17.7: Check with the step %d twice = %v", i, e)
		}
	}
}

// P17.7: one To twice and one From twice, in every mixture of kinds.
func TestSmallChecks(t *testing.T) {
	t.Parallel()
	answered := map[api.Errno]int{}
	steps := append(stepsOf("n/0.0>t/a n/0.0>t/b n/0.1>t/a n/0.1>t/b n/0.2>t/c t/a t/b t/c"), api.Step{Kind: 2, From: "n/0.0", To: "t/d"}, api.Step{Kind: 1, To: "t/d"})
	for _, list := range samples.Lists(steps, 4) {
		e, want := tree.Check(list), wrongSteps(list)
		if e != want {
			t.Fatalf("P17.7: Check(%+v) = %v, want %v", list, e, want)
		}
		answered[e]++
	}
	for _, e := range []api.Errno{api.OK, api.ErrTreeStep, api.ErrTreeTwice} {
		if answered[e] < 100 {
			t.Errorf("P17.7: %v is answered only %d times", e, answered[e])
		}
	}
}

func rows(text string) [][]byte { return contentsOf("aa " + text) }

func TestStage(t *testing.T) {
	t.Parallel()
	for _, c := range []struct {
		disk           string
		seq            int
		contents       string
		capacity, fuse int
		want           string
		e              api.Errno
	}{
		{"", 3, "", 9, -1, "", api.OK},
		{"t/a=1", 3, "=1 =23", 9, -1, "n/3.0=1 n/3.1=23 t/a=1", api.OK},
		{"", 0, "= = =", 0, -1, "n/0.0= n/0.1= n/0.2=", api.OK},
		{"", api.MaxSeq, "=1", 9, -1, "n/281474976710655.0=1", api.OK},
		{"n/3.0=old n/3.2=old n/2.0=old", 3, "=1 =2", 99, -1, "n/2.0=old n/3.0=1 n/3.1=2 n/3.2=old", api.OK},
		{"", 3, "=1 =2 =3 =4 =5 =6 =7 =8 =9 =10 =11", 99, -1, "n/3.0=1 n/3.1=2 n/3.10=11 n/3.2=3 n/3.3=4 n/3.4=5 n/3.5=6 n/3.6=7 n/3.7=8 n/3.8=9 n/3.9=10", api.OK},
		{"t/a=1", 3, "=12 =34 =", 4, -1, "n/3.0=12 t/a=1", api.ErrStoFull}, // what was written stays
		{"t/a=1", 3, "=12 =34 =", 5, -1, "n/3.0=12 n/3.1=34 n/3.2= t/a=1", api.OK},
		{"t/a=1", 3, "=12", 0, -1, "t/a=1", api.ErrStoFull},
		{"", 3, "=1 =2 =3", 9, 0, "", api.ErrStoDead},
		{"", 3, "=1 =2 =3", 9, 1, "n/3.0=1", api.ErrStoDead},
		{"", 3, "=1 =2 =3", 9, 2, "n/3.0=1 n/3.1=2", api.ErrStoDead},
		{"", 3, "=1 =2 =3", 9, 3, "n/3.0=1 n/3.1=2 n/3.2=3", api.OK},
		{"", 3, "=1 =2 =3", 1, 1, "n/3.0=1", api.ErrStoFull}, // no room is told ahead of the power's end
		{"", -1, "=1", 9, -1, "", api.ErrArg},
		{"", -1, "", 9, -1, "", api.ErrArg},
		{"", api.MaxSeq + 1, "=1", 9, -1, "", api.ErrArg},
		{"", math.MinInt, "=1", 9, -1, "", api.ErrArg},
	} {
		s := diskOf(c.disk).store(c.capacity)
		s.Fuse(c.fuse)
		if e := tree.Stage(s, c.seq, rows(c.contents)); e != c.e || seen(s) != c.want {
			t.Errorf("P17.8: Stage(%d, %q) on %q: %v, %q, want %v, %q", c.seq, c.contents, c.disk, e, seen(s), c.e, c.want)
		}
		d := diskOf(c.disk)
		if e := d.stage(c.seq, rows(c.contents), c.capacity, c.fuse); e != c.e || d.String() != c.want {
			t.Errorf("P17.8: the oracle tells %v, %q of %+v", e, d, c)
		}
	}
}

// P17.8: stores that there are none, and without power; no contents are no call.
func TestStageNowhere(t *testing.T) {
	t.Parallel()
	for _, seq := range []int{-1, 0, api.MaxSeq, api.MaxSeq + 1} {
		for _, text := range []string{"", "=1"} {
			if e := tree.Stage(nil, seq, rows(text)); e != api.ErrArg {
				t.Errorf("P17.8: Stage on no store, %d, %q: %v", seq, text, e)
			}
		}
	}
	if e := tree.Stage(dead("t/a=1"), 1, rows("=1")); e != api.ErrStoDead {
		t.Errorf("P17.8: Stage without power: %v", e)
	}
	if e := tree.Stage(dead("t/a=1"), -1, rows("=1")); e != api.ErrArg {
		t.Errorf("P17.8: Stage without power, of no number: %v", e)
	}
	if e := tree.Stage(dead("t/a=1"), 1, nil); e != api.OK {
		t.Errorf("P17.8: Stage of nothing without power: %v", e)
	}
}

// P17.8: it only writes: nothing is made durable.
func TestStageDoesNotSync(t *testing.T) {
	t.Parallel()
	s := diskOf("t/a=1").store(99)
	if e := tree.Stage(s, 1, rows("=1 =2")); e != api.OK || s.Pending() != 2 || s.Calls() != 2 {
		t.Errorf("P17.8: Stage: %v, %d pending, %d calls", e, s.Pending(), s.Calls())
	}
	s.Crash(api.Choice{Kept: []int{0, 1}})
	if seen(s) != "n/1.1=2 t/a=1" {
		t.Errorf("P17.8: behind a crash: %q", seen(s))
	}
}

// holdDo holds Do over a disk, with a fuse (below 0: none), against the oracle.
func holdDo(t *testing.T, d disk, steps []api.Step, fuse int) api.Errno {
	t.Helper()
	s := d.store(0) // it wants no room
	s.Fuse(fuse)
	n, e := tree.Do(s, steps)
	after := diskOf(d.String())
	wantN, wantE := after.do(steps, fuse)
	if n != wantN || e != wantE || seen(s) != after.String() {
		t.Errorf("P17.9: Do(%+v) on %q, fuse %d: %d, %v, %q, want %d, %v, %q", steps, d, fuse, n, e, seen(s), wantN, wantE, after)
	}
	if s.Calls() != wantN || e == api.OK && s.Pending() != wantN {
		t.Errorf("P17.9: Do(%+v) on %q, fuse %d: %d calls, %d pending", steps, d, fuse, s.Calls(), s.Pending())
	}
	if e == api.OK {
		was := s.Calls()
		if n, e := tree.Do(s, steps); n != 0 || e != api.OK || seen(s) != after.String() || s.Calls() != was {
			t.Errorf("P17.9: Do(%+v) again: %d, %v, %q", steps, n, e, seen(s))
		}
	}
	return e
}

func TestDo(t *testing.T) {
	t.Parallel()
	for _, c := range []struct {
		disk, steps string
		fuse, n     int
		e           api.Errno
		want        string
	}{
		{"t/x=1 t/y=2 n/3.0=3 n/3.1=4", "n/3.0>t/y n/3.1>t/z t/x", -1, 3, api.OK, "t/y=3 t/z=4"},
		{"t/x=1 t/y=2 n/3.0=3 t/z=4", "n/3.0>t/y n/3.1>t/z t/x", -1, 2, api.OK, "t/y=3 t/z=4"}, // the rename of z was kept
		{"t/y=3 t/z=4", "n/3.0>t/y n/3.1>t/z t/x", -1, 0, api.OK, "t/y=3 t/z=4"},
		{"", "n/3.0>t/y n/3.1>t/z t/x", -1, 0, api.OK, ""},
		{"t/a=1 n/0.0=2", "", -1, 0, api.OK, "n/0.0=2 t/a=1"},
		{"t/a=1 t/b=2 d/status=3 n/1.0=4 n/2.0=5 t//a=6", "t/a n/1.0>t/c", -1, 2, api.OK, "d/status=3 n/2.0=5 t//a=6 t/b=2 t/c=4"},
		{"t/x=1 t/y=2 n/3.0=3 n/3.1=4", "n/3.0>t/y n/3.1>t/z t/x", 0, 0, api.ErrStoDead, "n/3.0=3 n/3.1=4 t/x=1 t/y=2"},
		{"t/x=1 t/y=2 n/3.0=3 n/3.1=4", "n/3.0>t/y n/3.1>t/z t/x", 1, 1, api.ErrStoDead, "n/3.1=4 t/x=1 t/y=3"},
		{"t/x=1 t/y=2 n/3.0=3 n/3.1=4", "n/3.0>t/y n/3.1>t/z t/x", 2, 2, api.ErrStoDead, "t/x=1 t/y=3 t/z=4"},
		{"t/x=1 t/y=2 n/3.0=3 n/3.1=4", "n/3.0>t/y n/3.1>t/z t/x", 3, 3, api.OK, "t/y=3 t/z=4"},
		{"t/x=1 t/y=2 n/3.1=4", "n/3.0>t/y n/3.1>t/z t/x", 1, 1, api.ErrStoDead, "t/x=1 t/y=2 t/z=4"}, // what does nothing burns no fuse
		{"t/y=2", "n/3.0>t/y t/x", 0, 0, api.OK, "t/y=2"},
		{"t/a=1 n/0.0=2", "t/a t/a", -1, 0, api.ErrTreeTwice, "n/0.0=2 t/a=1"},
		{"t/a=1 n/0.0=2", "n/0.0>t/b t/a n/0.0>t/c", -1, 0, api.ErrTreeTwice, "n/0.0=2 t/a=1"},
		{"t/a=1 n/0.0=2", "t/a n/0.0", -1, 0, api.ErrTreeStep, "n/0.0=2 t/a=1"},
		{"t/a=1 n/0.0=2", "t/a t/a n/0.0>d/status", -1, 0, api.ErrTreeStep, "n/0.0=2 t/a=1"},
		{"t/a=1 n/0.0=2 d/status=3", "n/0.0>t/b d/status>t/a", 0, 0, api.ErrTreeStep, "d/status=3 n/0.0=2 t/a=1"},
	} {
		s := diskOf(c.disk).store(0)
		s.Fuse(c.fuse)
		if n, e := tree.Do(s, stepsOf(c.steps)); n != c.n || e != c.e || seen(s) != c.want {
			t.Errorf("P17.9: Do(%q) on %q, fuse %d: %d, %v, %q, want %d, %v, %q", c.steps, c.disk, c.fuse, n, e, seen(s), c.n, c.e, c.want)
		}
		holdDo(t, diskOf(c.disk), stepsOf(c.steps), c.fuse)
	}
}

// P17.9: step by step, in their order: the operations are pending as the steps stand.
func TestDoInOrder(t *testing.T) {
	t.Parallel()
	s := diskOf("t/c=1 t/a=2 n/0.0=3 n/0.1=4").store(99)
	steps := stepsOf("t/c n/0.1>t/b t/a n/0.0>t/d")
	if n, e := tree.Do(s, steps); n != 4 || e != api.OK {
		t.Errorf("P17.9: Do: %d, %v", n, e)
	}
	s.Crash(api.Choice{Kept: []int{1, 1, 0, 0}})
	if seen(s) != "n/0.0=3 t/a=2 t/b=4" {
		t.Errorf("P17.9: behind a crash that keeps the first two steps: %q", seen(s))
	}
}

// P17.9, P17.10: no store, no power, steps that may not be: which error comes first.
func TestDoNowhere(t *testing.T) {
	t.Parallel()
	for _, steps := range [][]api.Step{nil, stepsOf("t/a"), stepsOf("t/a t/a"), stepsOf("x"), {{}}} {
		for _, c := range []struct {
			s    *store.Store
			want api.Errno
		}{{nil, api.ErrArg}, {dead("t/a=1 n/0.0=2"), api.ErrStoDead}, {dead(""), api.ErrStoDead}} {
			if n, e := tree.Do(c.s, steps); n != 0 || e != c.want {
				t.Errorf("P17.9: Do(%+v): %d, %v, want %v", steps, n, e, c.want)
			}
			if n, e := tree.Clean(c.s, steps); n != 0 || e != c.want {
				t.Errorf("P17.10: Clean(%+v): %d, %v, want %v", steps, n, e, c.want)
			}
		}
	}
}

// P17.9: all small lists of steps over some disks, with all fuses.
func TestSmallDo(t *testing.T) {
	t.Parallel()
	answered := map[api.Errno]int{}
	lists := samples.Lists(append(stepsOf("n/0.0>t/a n/0.1>t/b n/0.1>t/c t/a t/b t/c"), api.Step{Kind: 2, From: "n/0.0", To: "t/d"}), 3)
	for _, laid := range samples.Lists([]string{"n/0.0=1", "n/0.1=2", "t/a=3", "t/b=4"}, 4) {
		if twice(laid) {
			continue
		}
		for _, steps := range lists {
			for fuse := -1; fuse <= 3; fuse++ {
				answered[holdDo(t, diskOf(strings.Join(laid, " ")), steps, fuse)]++
			}
		}
	}
	for _, e := range []api.Errno{api.OK, api.ErrTreeStep, api.ErrTreeTwice, api.ErrStoDead} {
		if answered[e] < 1000 {
			t.Errorf("P17.9: %v is answered only %d times", e, answered[e])
		}
	}
}

// holdClean holds Clean over a disk, with a fuse (below 0: none), against the oracle.
func holdClean(t *testing.T, d disk, keep []api.Step, fuse int) api.Errno {
	t.Helper()
	s := d.store(0)
	s.Fuse(fuse)
	n, e := tree.Clean(s, keep)
	after := diskOf(d.String())
	wantN, wantE := after.clean(keep, fuse)
	if n != wantN || e != wantE || seen(s) != after.String() || s.Calls() != wantN {
		t.Errorf("P17.10: Clean(%+v) on %q, fuse %d: %d, %v, %q, %d calls, want %d, %v, %q", keep, d, fuse, n, e, seen(s), s.Calls(), wantN, wantE, after)
	}
	if e == api.OK {
		if n, e := tree.Clean(s, keep); n != 0 || e != api.OK || seen(s) != after.String() {
			t.Errorf("P17.10: Clean(%+v) again: %d, %v, %q", keep, n, e, seen(s))
		}
	}
	return e
}

func TestClean(t *testing.T) {
	t.Parallel()
	all := "d/status=1 m/0.0= n= n/=2 n/!=3 n/0.0=4 n/0.1=5 n/00.0=6 n/10.0=7 n/2.0=8 n/zz=9 nn/0.0= o/0.0= t/a=1 t/n/0.0=2"
	for _, c := range []struct {
		disk string
		keep []api.Step
		fuse int
		n    int
		e    api.Errno
		want string
	}{
		{"", nil, -1, 0, api.OK, ""},
		{"", stepsOf("n/0.0>t/a"), 0, 0, api.OK, ""},
		{"t/a=1 d/status=2", nil, 0, 0, api.OK, "d/status=2 t/a=1"},
		{"n/1.0= n/2.0=1 n/zz= t/a=1", stepsOf("n/2.0>t/a"), -1, 2, api.OK, "n/2.0=1 t/a=1"},
		{all, nil, -1, 8, api.OK, "d/status=1 m/0.0= n= nn/0.0= o/0.0= t/a=1 t/n/0.0=2"},
		{all, stepsOf("n/0.0>t/a n/0.1>t/a n/10.0>t/c t/n/0.0 n/5.0>t/q"), -1, 5, api.OK, "d/status=1 m/0.0= n= n/0.0=4 n/0.1=5 n/10.0=7 nn/0.0= o/0.0= t/a=1 t/n/0.0=2"},
		// Steps to keep need not be such as may be: their From counts.
		{all, []api.Step{{Kind: 9, From: "n/zz"}, {From: "n/"}, {Kind: 2, From: "n/0.0", To: "t/a"}, {Kind: 1, From: "t/a", To: "n/0.1"}, {}}, -1, 5, api.OK, "d/status=1 m/0.0= n= n/=2 n/0.0=4 n/zz=9 nn/0.0= o/0.0= t/a=1 t/n/0.0=2"},
		// By rising names, byte for byte: 10.0 ahead of 2.0.
		{all, nil, 6, 6, api.ErrStoDead, "d/status=1 m/0.0= n= n/2.0=8 n/zz=9 nn/0.0= o/0.0= t/a=1 t/n/0.0=2"},
		{all, stepsOf("n/0.0>t/a"), 2, 2, api.ErrStoDead, "d/status=1 m/0.0= n= n/0.0=4 n/0.1=5 n/00.0=6 n/10.0=7 n/2.0=8 n/zz=9 nn/0.0= o/0.0= t/a=1 t/n/0.0=2"},
		{all, nil, 0, 0, api.ErrStoDead, diskOf(all).String()},
		{all, nil, 8, 8, api.OK, "d/status=1 m/0.0= n= nn/0.0= o/0.0= t/a=1 t/n/0.0=2"},
		{"n/0.0=1", stepsOf("n/0.0>t/a"), 0, 0, api.OK, "n/0.0=1"},
	} {
		s := diskOf(c.disk).store(0)
		s.Fuse(c.fuse)
		if n, e := tree.Clean(s, c.keep); n != c.n || e != c.e || seen(s) != c.want {
			t.Errorf("P17.10: Clean(%+v) on %q, fuse %d: %d, %v, %q, want %d, %v, %q", c.keep, c.disk, c.fuse, n, e, seen(s), c.n, c.e, c.want)
		}
		for fuse := -1; fuse < 10; fuse++ {
			holdClean(t, diskOf(c.disk), c.keep, fuse)
		}
	}
}

// P17.10: all small disks, with all steps to keep and all fuses.
func TestSmallClean(t *testing.T) {
	t.Parallel()
	answered := map[api.Errno]int{}
	keeps := samples.Lists(append(stepsOf("n/0.0>t/a n/1.0>t/b t/c"), api.Step{From: "n/x"}), 3)
	for _, laid := range samples.Lists([]string{"n/0.0=1", "n/1.0=2", "n/x=3", "t/a=4"}, 4) {
		if twice(laid) {
			continue
		}
		for _, keep := range keeps {
			for fuse := -1; fuse <= 3; fuse++ {
				answered[holdClean(t, diskOf(strings.Join(laid, " ")), keep, fuse)]++
			}
		}
	}
	if answered[api.OK] < 1000 || answered[api.ErrStoDead] < 1000 {
		t.Errorf("P17.10: so many answers: %v", answered)
	}
}
