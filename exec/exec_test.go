package exec_test

import (
	"fmt"
	"slices"
	"strings"
	"testing"

	"larder/api"
	"larder/exec"
	"larder/samples"
	"larder/status"
	"larder/store"
)

// The chapter's examples, with their numbers of changing calls.
func TestExamples(t *testing.T) {
	t.Parallel()
	d := samples.Must(store.New(room))
	x, e := exec.Open(d)
	if x == nil || e != api.OK || told(x.State()) != told(api.State{}) || x.Frames() != 0 || x.Dead() || d.Calls() != 0 {
		t.Fatalf("P18.1: Open of an empty store = %d, with %d calls", e, d.Calls())
	}
	if e := x.Run(samples.Work("in aa 1 x:hi")); e != api.OK || d.Calls() != 6 || d.Pending() != 0 {
		t.Errorf("P18.4: Run = %d, with %d calls, %d pending", e, d.Calls(), d.Pending())
	}
	if s := x.State(); s.Seq != 1 || s.Group != 1 || told(s.Held) != told([]api.Held{samples.Held("aa 1 x:hi")}) || x.Frames() != 1 {
		t.Errorf("P18.2: State = %+v, %d frames", s, x.Frames())
	}
	if files := samples.Seen(d); files["t/x"] != "hi" || len(files) != 2 {
		t.Errorf("P18.4: the store is %q", files)
	}
	if e := x.Run(samples.Work("mark aa")); e != api.OK || d.Calls() != 10 || d.Pending() != 0 || x.State().Held[0].Mark != api.MarkAuto || x.Frames() != 2 {
		t.Errorf("P18.4: Run of a mark = %d, with %d calls, %d pending", e, d.Calls(), d.Pending())
	}
}

// call is a changing call of a store.
type call func(d *store.Store) api.Errno

func write(name, data string) call {
	return func(d *store.Store) api.Errno { return d.Write(name, []byte(data)) }
}

func add(name, data string) call {
	return func(d *store.Store) api.Errno { return d.Append(name, []byte(data)) }
}

func rename(from, to string) call {
	return func(d *store.Store) api.Errno { return d.Rename(from, to) }
}

func remove(name string) call {
	return func(d *store.Store) api.Errno { return d.Remove(name) }
}

func cut(name string, n int) call {
	return func(d *store.Store) api.Errno { return d.Truncate(name, n) }
}

func sync(d *store.Store) api.Errno { return d.Sync() }

// holdCalls holds that something makes just these calls, in this order: the power goes at each of them, and behind the last one it stays on.
func holdCalls(t *testing.T, what string, image []api.Blob, capacity int, do func(d *store.Store) api.Errno, want api.Errno, calls ...call) {
	t.Helper()
	for fuse := range len(calls) + 1 {
		d, twin := samples.Must(store.Load(image, capacity)), samples.Must(store.Load(image, capacity))
		d.Fuse(fuse)
		twin.Fuse(fuse)
		e, f := do(d), want
		for _, c := range calls {
			if g := c(twin); g != api.OK && fuse == len(calls) {
				t.Fatalf("%s: a call that is wanted is answered %d", what, g)
			}
		}
		if fuse < len(calls) {
			f = api.ErrStoDead
		}
		if e != f || samples.Told(d) != samples.Told(twin) {
			t.Errorf("%s, power for %d calls: %d, want %d; the store is %q, want %q", what, fuse, e, f, samples.Told(d), samples.Told(twin))
		}
	}
}

// running tells what runs a work on a store.
func running(w api.Work) func(d *store.Store) api.Errno {
	return func(d *store.Store) api.Errno {
		x, e := exec.Open(d)
		if e != api.OK {
			return e
		}
		return x.Run(w)
	}
}

// Which changing calls a batch makes, in their order.
func TestCallsOfRun(t *testing.T) {
	t.Parallel()
	ahead, _ := play("in aa 1 p:1 x:2", "in bb 1 q:3")
	w := samples.Work("out aa; in aa 2 r:4 x:5; mend q:3")
	steps := []api.Step{{Kind: 1, From: "n/3.0", To: "t/r"}, {Kind: 1, From: "n/3.1", To: "t/x"}, {Kind: 2, To: "t/p"}, {Kind: 1, From: "n/3.2", To: "t/q"}}
	frame := string(frameOf(api.Commit{Seq: 3, Group: 3, Out: w.Out, In: w.In, Steps: steps}))
	stage := []call{write("n/3.0", "4"), write("n/3.1", "5"), write("n/3.2", "3")}
	lay := []call{rename("n/3.0", "t/r"), rename("n/3.1", "t/x"), remove("t/p"), rename("n/3.2", "t/q")}
	undo := []call{remove("n/3.0"), remove("n/3.1"), remove("n/3.2"), sync}
	used := ahead.Used()
	holdCalls(t, "P18.4: a batch", ahead.Image(), room, running(w), api.OK, slices.Concat(stage, []call{sync, add("d/journal", frame), sync}, lay, []call{sync})...)
	holdCalls(t, "P18.4: less than the Reserve", ahead.Image(), used+3+len(frame)+65535, running(w), api.ErrExeFull, slices.Concat(stage, []call{sync}, undo)...)
	holdCalls(t, "P18.4: no room for a file", ahead.Image(), used+2, running(w), api.ErrExeFull, slices.Concat(stage[:2], undo[:2], []call{sync})...)
	holdCalls(t, "P18.4: no room for any file", ahead.Image(), used, running(w), api.ErrExeFull, sync)
	mark := string(frameOf(api.Commit{Seq: 3, Group: 3, Marks: []string{"aa"}}))
	holdCalls(t, "P18.4: a mark", ahead.Image(), used+len(mark), running(samples.Work("mark aa")), api.OK, sync, add("d/journal", mark), sync, sync)
	holdCalls(t, "P18.4: a mark without room", ahead.Image(), used+len(mark)-1, running(samples.Work("mark aa")), api.ErrExeFull, sync, sync)
	first := string(frameOf(api.Commit{Seq: 1, Group: 1, In: []api.Held{samples.Held("aa 1")}}))
	holdCalls(t, "P18.4: the first frame", nil, room, running(samples.Work("in aa 1")), api.OK, sync, write("d/journal", first), sync, sync)
	holdCalls(t, "P18.4: a work with a fault", ahead.Image(), room, running(samples.Work("out zz")), api.ErrExeWork)
}

// P18.2 to P18.5: of an Exec that is none, and one that Open has not made.
func TestNil(t *testing.T) {
	t.Parallel()
	for what, x := range map[string]*exec.Exec{"nil": nil, "a zero one": {}} {
		for _, works := range [][]api.Work{nil, {samples.Work("in aa 1")}, {{}}} {
			if e := x.Check(works); e != api.ErrArg {
				t.Errorf("P18.3: %s: Check = %d", what, e)
			}
		}
		if e, f, g := x.Run(samples.Work("in aa 1")), x.Run(api.Work{}), x.Checkpoint(); e != api.ErrArg || f != api.ErrArg || g != api.ErrArg {
			t.Errorf("P18.4: %s: Run = %d, %d, Checkpoint = %d", what, e, f, g)
		}
		if s := x.State(); told(s) != told(api.State{}) || x.Frames() != 0 || x.Dead() {
			t.Errorf("P18.2: %s: State = %+v, %d frames, %v", what, s, x.Frames(), x.Dead())
		}
	}
}

// faultCase is a work over base, and what is wrong with it.
type faultCase struct {
	what string
	w    api.Work
	want api.Errno
}

// base is what the works of faultCases are over: two changes, Seq 4, Group 3.
var base = []string{"in aa 1 p:1 x:2", "in bb 1 depends=aa auto q:3 s:; group 1", "in cc 1", "in dd 1 provides=mail u:7; group 3"}

// edit makes a work and changes it.
func edit(text string, change func(w *api.Work)) api.Work {
	w := samples.Work(text)
	change(&w)
	return w
}

// fileCases tells works that do not have just the contents of what comes.
func fileCases() []faultCase {
	const two = "in ee 1 a:1 b:2; in ff 1 c:3"
	return []faultCase{
		{"contents of all files", samples.Work(two), api.OK},
		{"no contents", edit(two, func(w *api.Work) { w.Files = nil }), api.ErrExeWork},
		{"too few", edit(two, func(w *api.Work) { w.Files = w.Files[:2] }), api.ErrExeWork},
		{"without the first", edit(two, func(w *api.Work) { w.Files = w.Files[1:] }), api.ErrExeWork},
		{"too many", edit(two, func(w *api.Work) { w.Files = append(w.Files, api.Blob{Name: "d"}) }), api.ErrExeWork},
		{"the last one twice", edit(two, func(w *api.Work) { w.Files = append(w.Files, w.Files[2]) }), api.ErrExeWork},
		{"one in the place of another", edit(two, func(w *api.Work) { w.Files[1] = w.Files[0] }), api.ErrExeWork},
		{"another order in a package", edit(two, func(w *api.Work) { w.Files[0], w.Files[1] = w.Files[1], w.Files[0] }), api.ErrExeWork},
		{"another order of packages", edit(two, func(w *api.Work) { w.Files = append(w.Files[2:], w.Files[:2]...) }), api.ErrExeWork},
		{"another path", edit(two, func(w *api.Work) { w.Files[0].Name = "z" }), api.ErrExeWork},
		{"a name of the store", edit(two, func(w *api.Work) { w.Files[0].Name = "t/a" }), api.ErrExeWork},
		{"no path", edit(two, func(w *api.Work) { w.Files[0].Name = "" }), api.ErrExeWork},
		{"other bytes", edit(two, func(w *api.Work) { w.Files[2].Data = []byte("4") }), api.ErrExeWork},
		{"fewer bytes", edit(two, func(w *api.Work) { w.Files[0].Data = nil }), api.ErrExeWork},
		{"more bytes", edit(two, func(w *api.Work) { w.Files[0].Data = []byte("1\x00") }), api.ErrExeWork},
		{"another size, the same sum", edit(two, func(w *api.Work) { w.In[0].Files[0].Size = 2 }), api.ErrExeWork},
		{"contents changed about", edit(two, func(w *api.Work) { w.Files[0].Data, w.Files[1].Data = w.Files[1].Data, w.Files[0].Data }), api.ErrExeWork},
		{"contents of no package", edit("mark aa", func(w *api.Work) { w.Files = samples.Blobs("a:1") }), api.ErrExeWork},
		{"contents of a package that stays", edit("mark aa", func(w *api.Work) { w.Files = samples.Blobs("p:1") }), api.ErrExeWork},
		{"contents of a package that goes", edit("out bb", func(w *api.Work) { w.Files = samples.Blobs("q:3 s:") }), api.ErrExeWork},
		{"a package without files", samples.Work("in ee 1"), api.OK},
		{"a file without bytes", samples.Work("in ee 1 a:"), api.OK},
		{"a file without bytes that has some", edit("in ee 1 a:", func(w *api.Work) { w.Files[0].Data = []byte{0} }), api.ErrExeWork},
	}
}

// mendCases tells works that lay files anew.
func mendCases() []faultCase {
	return []faultCase{
		{"one file", samples.Work("mend p:1"), api.OK},
		{"files of several packages", samples.Work("mend p:1 q:3 s: u:7 x:2"), api.OK},
		{"with a mark of the package", samples.Work("mark aa; mend p:1"), api.OK},
		{"beside one that goes", samples.Work("out bb; mend p:1 u:7"), api.OK},
		{"beside one that comes", samples.Work("in ee 1 p0:1; mend p:1 q:3"), api.OK},
		{"falling", samples.Work("mend q:3 p:1"), api.ErrExeWork},
		{"twice", samples.Work("mend p:1 p:1"), api.ErrExeWork},
		{"rising, then falling", samples.Work("mend p:1 x:2 q:3"), api.ErrExeWork},
		{"nobody's", samples.Work("mend a:1"), api.ErrExeWork},
		{"nobody's, behind a right one", samples.Work("mend p:1 z:1"), api.ErrExeWork},
		{"no path", edit("", func(w *api.Work) { w.Mend = []api.Blob{{}} }), api.ErrExeWork},
		{"a name of the store", samples.Work("mend t/p:1"), api.ErrExeWork},
		{"of one that goes", samples.Work("out bb; mend q:3"), api.ErrExeWork},
		{"of one that goes and comes again", samples.Work("out bb; in bb 1 depends=aa q:3 s:; mend q:3"), api.ErrExeWork},
		{"of one that comes", samples.Work("in ee 1 a:1; mend a:1"), api.ErrExeWork},
		{"of one that comes, of which an older one had it", samples.Work("out dd; in dd 2 u:7; mend u:7"), api.ErrExeWork},
		{"other bytes", samples.Work("mend p:2"), api.ErrExeWork},
		{"more bytes", samples.Work("mend p:11"), api.ErrExeWork},
		{"fewer bytes", samples.Work("mend p:"), api.ErrExeWork},
		{"bytes of another file", samples.Work("mend p:1 x:1"), api.ErrExeWork},
		{"bytes where there are none", samples.Work("mend s:1"), api.ErrExeWork},
	}
}

// commitCases tells works whose commit does or does not fit, or leads to what is not Valid.
func commitCases() []faultCase {
	return []faultCase{
		{"out", samples.Work("out bb"), api.OK},
		{"out of several", samples.Work("out aa bb cc dd"), api.OK},
		{"in", samples.Work("in ee 1"), api.OK},
		{"an upgrade", samples.Work("out aa; in aa 2 x:2 y:3"), api.OK},
		{"the same again", samples.Work("out aa; in aa 1 p:1 x:2"), api.OK},
		{"marks", samples.Work("mark aa bb"), api.OK},
		{"all at once", samples.Work("out cc; in ee 1 e:1 auto; mark aa; mend p:1"), api.OK},
		{"another one's path that goes", samples.Work("out dd; in ee 1 u:8"), api.OK},
		{"no group", samples.Work("mark aa; group 0"), api.OK},
		{"its own number", samples.Work("mark aa; group 5"), api.OK},
		{"the state's group", samples.Work("mark aa; group 3"), api.OK},
		{"an older group", samples.Work("mark aa; group 1"), api.ErrExeWork},
		{"a commit within the group", samples.Work("mark aa; group 4"), api.ErrExeWork},
		{"a later one", samples.Work("mark aa; group 6"), api.ErrExeWork},
		{"a group below 0", samples.Work("mark aa; group -1"), api.ErrExeWork},
		{"out, not held", samples.Work("out zz"), api.ErrExeWork},
		{"out, falling", samples.Work("out cc bb"), api.ErrExeWork},
		{"out, twice", samples.Work("out bb bb"), api.ErrExeWork},
		{"out, no name", samples.Work("out B"), api.ErrExeWork},
		{"in, held", samples.Work("in aa 2"), api.ErrExeWork},
		{"in, falling", samples.Work("in ff 1; in ee 1"), api.ErrExeWork},
		{"in, twice", samples.Work("in ee 1; in ee 2"), api.ErrExeWork},
		{"in, no version", edit("in ee 1", func(w *api.Work) { w.In[0].Version = "" }), api.ErrExeWork},
		{"in, no mark", edit("in ee 1", func(w *api.Work) { w.In[0].Mark = 2 }), api.ErrExeWork},
		{"in, files that fall", samples.Work("in ee 1 b:1 a:2"), api.ErrExeWork},
		{"in, a path of one that stays", samples.Work("in ee 1 x:2"), api.ErrExeWork},
		{"in, one path twice", samples.Work("in ee 1 a:1; in ff 1 a:1"), api.ErrExeWork},
		{"marks, not held", samples.Work("mark zz"), api.ErrExeWork},
		{"marks, falling", samples.Work("mark bb aa"), api.ErrExeWork},
		{"marks of what goes", samples.Work("out bb; mark bb"), api.ErrExeWork},
		{"marks of what comes", samples.Work("in ee 1; mark ee"), api.ErrExeWork},
		{"a Depends that is lost", samples.Work("out aa"), api.ErrExeWork},
		{"a Depends that is not met", samples.Work("in ee 1 depends=zz"), api.ErrExeWork},
		{"a Depends that is met by what comes", samples.Work("in ee 1 depends=ff; in ff 1"), api.OK},
		{"a Depends that its package meets", samples.Work("in ee 1 depends=ee"), api.OK},
		{"a Depends that is met by what is provided", samples.Work("in ee 1 depends=mail"), api.OK},
		{"a Pre-Depends that is met", samples.Work("in ee 1 pre=aa"), api.OK},
		{"a Pre-Depends that its own package meets", samples.Work("in ee 1 pre=ee"), api.ErrExeWork},
		{"a conflict", samples.Work("in ee 1 conflicts=dd"), api.ErrExeWork},
		{"a conflict with what goes", samples.Work("out dd; in ee 1 conflicts=dd"), api.OK},
		{"a conflict with itself", samples.Work("in ee 1 conflicts=ee"), api.OK},
	}
}

// emptyCases tells works that are empty, or nearly.
func emptyCases() []faultCase {
	return []faultCase{
		{"nothing", api.Work{}, api.ErrExeWork},
		{"empty lists", api.Work{Out: []string{}, In: []api.Held{}, Marks: []string{}, Files: []api.Blob{}, Mend: []api.Blob{}}, api.ErrExeWork},
		{"a group alone", api.Work{Group: 3}, api.ErrExeWork},
		{"contents alone", api.Work{Files: samples.Blobs("a:1")}, api.ErrExeWork},
	}
}

func faultCases() []faultCase {
	return slices.Concat(commitCases(), fileCases(), mendCases(), emptyCases())
}

// P18.3, P18.4, P18.6: each fault, and that a work that has one changes nothing.
func TestFaults(t *testing.T) {
	t.Parallel()
	d, states := play(base...)
	state := states[len(states)-1]
	for _, c := range faultCases() {
		steps, e := exec.Steps(state, c.w)
		if e != c.want || e != api.OK && len(steps) > 0 {
			t.Errorf("P18.6: %s: Steps = %v, %d, want %d", c.what, steps, e, c.want)
		}
		if want := stepsOf(state, c.w); e == api.OK && told(steps) != told(want) {
			t.Errorf("P18.6: %s: Steps = %v, want %v", c.what, steps, want)
		}
		p := pairOf(t, d.Image(), room)
		if e := p.x.Check([]api.Work{c.w}); e != c.want || p.d.Calls() != 0 {
			t.Errorf("P18.3: %s: Check = %d, want %d", c.what, e, c.want)
		}
		p.hold(t, c.what)
		if e := p.run(t, c.what, c.w); e != c.want || e != api.OK && p.d.Calls() != 0 {
			t.Errorf("P18.4: %s: Run = %d, want %d", c.what, e, c.want)
		}
		if again, e := exec.Open(p.d); e != api.OK || told(again.State()) != told(p.m.state) {
			t.Errorf("P18.7: %s: Open = %d", c.what, e)
		}
	}
}

// smallStates tells how the states come about that the works of TestSmall are over.
func smallStates() [][]string {
	return [][]string{
		nil,
		{"in aa 1 x:1"},
		{"in aa 1 x:1; in bb 1 depends=aa auto y:2"},
		{"in aa 1; in bb 1 x:1; in cc 1 pre=bb y:2", "mark aa"},
		{"in bb 1 conflicts=cc y:2", "checkpoint", "in aa 1 x:1; group 1"},
	}
}

// P18.3, P18.4, P18.6: all small works over small states, as the oracle has them.
func TestSmall(t *testing.T) {
	t.Parallel()
	choose := func(words ...string) []string { return append(words, "") }
	counts := map[api.Errno]int{}
	for _, lines := range smallStates() {
		d, states := play(lines...)
		state := states[len(states)-1]
		for _, out := range choose("out aa; ", "out bb; ", "out aa bb; ", "out cc; ", "out bb aa; ") {
			for _, in := range choose("in aa 1 x:1; ", "in aa 2 x:3 z:4; ", "in bb 2 depends=aa y:2; ", "in aa 2; in cc 1 y:5; ", "in bb 1; in aa 1; ") {
				for _, mark := range choose("mark aa; ", "mark bb; ", "mark aa bb; ") {
					for _, mend := range choose("mend x:1; ", "mend x:1 y:2; ", "mend y:2 x:1; ", "mend x:2; ") {
						for _, group := range choose("group 1", "group 2") {
							what := fmt.Sprint(lines, " ", out, in, mark, mend, group)
							w := samples.Work(strings.TrimSuffix(out+in+mark+mend+group, "; "))
							want := fault(state, w)
							counts[want]++
							steps, e := exec.Steps(state, w)
							if e != want || e != api.OK && len(steps) > 0 || e == api.OK && told(steps) != told(stepsOf(state, w)) {
								t.Fatalf("P18.6: %s: Steps = %v, %d, want %d", what, steps, e, want)
							}
							if want == api.OK || counts[want]%20 == 0 {
								p := pairOf(t, d.Image(), room)
								p.run(t, what, w)
							}
						}
					}
				}
			}
		}
	}
	if counts[api.OK] < 200 || counts[api.ErrExeWork] < 3000 {
		t.Errorf("small works are answered %v", counts)
	}
}

// P18.3: works one behind the other: each over the state that those ahead of it make.
func TestCheckOfSeveral(t *testing.T) {
	t.Parallel()
	for _, c := range []struct {
		works []string
		want  api.Errno
	}{
		{nil, api.OK},
		{[]string{"in ee 1 a:1", "in ff 1 depends=ee", "out ee ff"}, api.OK},
		{[]string{"in ff 1 depends=ee", "in ee 1 a:1"}, api.ErrExeWork},
		{[]string{"in ee 1", "in ee 1"}, api.ErrExeWork},
		{[]string{"in ee 1", "out ee", "in ee 1"}, api.OK},
		{[]string{"in ee 1 a:1", "mend a:1"}, api.OK},
		{[]string{"in ee 1 a:1", "out ee", "mend a:1"}, api.ErrExeWork},
		{[]string{"mark aa", "mark aa", "mark aa"}, api.OK},
		{[]string{"in ee 1; group 5", "in ff 1; group 5", "in gg 1; group 5"}, api.OK},
		{[]string{"in ee 1; group 3", "in ff 1; group 3", "in gg 1"}, api.OK},
		{[]string{"in ee 1", "in ff 1; group 3"}, api.ErrExeWork},
		{[]string{"in ee 1; group 5", "in ff 1; group 6", "in gg 1; group 5"}, api.ErrExeWork},
		{[]string{"out bb", "out aa"}, api.OK},
		{[]string{"out aa", "out bb"}, api.ErrExeWork},
		{[]string{"in ee 1", "", "in ff 1"}, api.ErrExeWork},
	} {
		d, _ := play(base...)
		p := pairOf(t, d.Image(), room)
		var works []api.Work
		for _, text := range c.works {
			works = append(works, samples.Work(text))
		}
		if e := p.x.Check(works); e != c.want || p.m.check(works) != c.want || p.d.Calls() != 0 {
			t.Errorf("P18.3: Check of %q = %d, want %d, with %d calls", c.works, e, c.want, p.d.Calls())
		}
		p.hold(t, "behind Check")
		if c.want != api.OK {
			continue
		}
		for _, w := range works {
			if e := p.run(t, "one behind the other", w); e != api.OK {
				t.Errorf("P18.4: Run of %q = %d", c.works, e)
			}
		}
	}
}

// P18.3: a work that is wrong counts, wherever it stands; a fault of an earlier one comes first.
func TestCheckFirstFault(t *testing.T) {
	t.Parallel()
	s := api.State{Seq: api.MaxSeq - 2}
	d := samples.Disk(map[string]string{"d/status": string(pointOf(s))}, room)
	x := samples.Must(exec.Open(d))
	good, bad := samples.Work("in aa 1"), samples.Work("out zz")
	for _, c := range []struct {
		works []api.Work
		want  api.Errno
	}{
		{[]api.Work{good}, api.OK},
		{[]api.Work{good, samples.Work("mark aa")}, api.OK},
		{[]api.Work{good, samples.Work("mark aa"), samples.Work("mark aa")}, api.ErrExeLong},
		{[]api.Work{good, samples.Work("mark aa"), bad}, api.ErrExeLong},
		{[]api.Work{good, bad, samples.Work("mark aa")}, api.ErrExeWork},
		{[]api.Work{bad, samples.Work("mark aa"), samples.Work("mark aa")}, api.ErrExeWork},
	} {
		if e := x.Check(c.works); e != c.want || d.Calls() != 0 {
			t.Errorf("P18.3: Check = %d, want %d", e, c.want)
		}
	}
}

// P18.3 to P18.6: the last number of a commit.
func TestLastNumber(t *testing.T) {
	t.Parallel()
	s := api.State{Seq: api.MaxSeq - 1, Held: []api.Held{samples.Held("aa 1 x:1")}}
	files := map[string]string{"d/status": string(pointOf(s)), "t/x": "1"}
	p, e := opened(t, "one number is left", samples.Disk(files, room), samples.Disk(files, room))
	if e != api.OK {
		t.Fatalf("P18.1: Open = %d", e)
	}
	w := samples.Work("in bb 1 y:2; mend x:1")
	steps, e := exec.Steps(s, w)
	if want := []api.Step{{Kind: 1, From: "n/281474976710655.0", To: "t/y"}, {Kind: 1, From: "n/281474976710655.1", To: "t/x"}}; e != api.OK || told(steps) != told(want) {
		t.Errorf("P18.6: Steps = %v, %d, want %v", steps, e, want)
	}
	if e := p.run(t, "the last number", w); e != api.OK || p.x.State().Seq != api.MaxSeq {
		t.Fatalf("P18.4: Run = %d", e)
	}
	for what, w := range map[string]api.Work{"right": samples.Work("mark aa"), "wrong": samples.Work("out zz"), "empty": {}, "of an odd group": samples.Work("mark aa; group -3")} {
		if e, f := p.x.Check([]api.Work{w}), p.run(t, what, w); e != api.ErrExeLong || f != api.ErrExeLong {
			t.Errorf("P18.3: no number is left, a work that is %s: %d, %d", what, e, f)
		}
		for _, seq := range []int{api.MaxSeq, api.MaxSeq + 1, 1<<63 - 1} {
			if steps, e := exec.Steps(api.State{Seq: seq, Group: -1}, w); e != api.ErrExeLong || len(steps) > 0 {
				t.Errorf("P18.6: Seq %d, a work that is %s: Steps = %v, %d", seq, what, steps, e)
			}
		}
	}
	if e := p.x.Check(nil); e != api.OK {
		t.Errorf("P18.3: no number is left, no works: %d", e)
	}
	if e := p.checkpoint(t, "no number is left"); e != api.OK || p.x.Frames() != 0 {
		t.Errorf("P18.5: Checkpoint = %d", e)
	}
	if again, e := exec.Open(p.d); e != api.OK || again.State().Seq != api.MaxSeq || told(again.State()) != told(p.m.state) {
		t.Errorf("P18.1: Open = %d", e)
	}
}

// P18.6: states that may not be.
func TestStepsOfWrongStates(t *testing.T) {
	t.Parallel()
	for what, s := range map[string]api.State{
		"a number below 0":   {Seq: -1},
		"the least number":   {Seq: -1 << 63},
		"a group above":      {Seq: 1, Group: 2},
		"names that fall":    {Held: []api.Held{samples.Held("bb 1"), samples.Held("aa 1")}},
		"a name twice":       {Held: []api.Held{samples.Held("aa 1"), samples.Held("aa 2")}},
		"a path twice":       {Held: []api.Held{samples.Held("aa 1 x:1"), samples.Held("bb 1 x:1")}},
		"a mark that is not": {Held: []api.Held{{Package: samples.Package("aa 1"), Mark: 3}}},
		"no name":            {Held: []api.Held{{}}},
		"not Valid":          {Held: []api.Held{samples.Held("aa 1 depends=zz")}},
		"an odd past":        {Seq: 2, Past: []api.Entry{{Seq: 1, Group: 1}}},
	} {
		if steps, e := exec.Steps(s, samples.Work("in cc 1 y:2")); e != api.ErrExeWork || len(steps) > 0 {
			t.Errorf("P18.6: a state with %s: Steps = %v, %d", what, steps, e)
		}
	}
	broken := api.State{Held: []api.Held{samples.Held("aa 1 depends=zz")}}
	for _, text := range []string{"out aa", "in zz 1", "in yy 1 provides=zz"} {
		if _, e := exec.Steps(broken, samples.Work(text)); e != api.OK {
			t.Errorf("P18.6: %s makes the state Valid: Steps = %d", text, e)
		}
	}
}

// P18.6: the steps, by hand.
func TestSteps(t *testing.T) {
	t.Parallel()
	_, states := play(base...)
	state := states[len(states)-1]
	for _, c := range []struct{ work, want string }{
		{"mark aa", ""},
		{"out cc", ""},
		{"out dd", "t/u"},
		{"out aa bb", "t/p t/q t/s t/x"},
		{"in ee 1 a:1 b:2; in ff 1 A:3", "n/5.0>t/a n/5.1>t/b n/5.2>t/A"},
		{"out aa; in aa 2 p:9 y:8", "n/5.0>t/p n/5.1>t/y t/x"},
		{"out bb dd; in bb 2 s:1; in ee 1 q:2", "n/5.0>t/s n/5.1>t/q t/u"},
		{"mend p:1 x:2", "n/5.0>t/p n/5.1>t/x"},
		{"out dd; in ee 1 a:1 b:2; mend p:1 q:3", "n/5.0>t/a n/5.1>t/b t/u n/5.2>t/p n/5.3>t/q"},
	} {
		var words []string
		steps, e := exec.Steps(state, samples.Work(c.work))
		for _, s := range steps {
			if s.Kind == api.StepRename {
				words = append(words, s.From+">"+s.To)
			} else {
				words = append(words, s.From+s.To)
			}
		}
		if got := strings.Join(words, " "); e != api.OK || got != c.want {
			t.Errorf("P18.6: Steps of %q = %q, %d, want %q", c.work, got, e, c.want)
		}
	}
}

// P18.4: the frame that is appended is the commit's, with its steps; the state is that behind it.
func TestFrame(t *testing.T) {
	t.Parallel()
	for _, text := range []string{"mark aa", "mark aa; group 3", "out dd; in ee 1 a:1 auto; mark cc; mend p:1; group 3", "out aa bb cc dd", "mend p:1"} {
		d, states := play(base...)
		state := states[len(states)-1]
		x := samples.Must(exec.Open(d))
		was := samples.Seen(d)["d/journal"]
		w := samples.Work(text)
		c := api.Commit{Seq: 5, Group: 5, Out: w.Out, In: w.In, Marks: w.Marks, Steps: stepsOf(state, w)}
		if w.Group == 3 {
			c.Group = 3
		}
		if e := x.Run(w); e != api.OK || samples.Seen(d)["d/journal"] != was+string(frameOf(c)) {
			t.Errorf("P18.4: %s: Run = %d, and another frame", text, e)
		}
		if want := samples.Must(status.Apply(state, c)); told(x.State()) != told(want) {
			t.Errorf("P18.4: %s: State = %s, want %s", text, told(x.State()), told(want))
		}
	}
}

// P18.4: what else lies in the store: staged files are written over, what goes may be gone, what comes may be there.
func TestStrays(t *testing.T) {
	t.Parallel()
	d, _ := play(base...)
	p := pairOf(t, d.Image(), room)
	for _, disk := range []*store.Store{p.d, p.m.d} {
		for _, b := range []string{"n/5.0:left", "n/5.7:left", "n/odd:left", "t/a:stray", "t/z:stray", "other:1", "d/other:1"} {
			name, data, _ := strings.Cut(b, ":")
			disk.Write(name, []byte(data))
		}
		disk.Remove("t/p")
		disk.Remove("t/u")
	}
	if e := p.run(t, "strays", samples.Work("out dd; in ee 1 a:1 b:2; mend p:1")); e != api.OK {
		t.Errorf("P18.4: Run = %d", e)
	}
	files := samples.Seen(p.d)
	if files["t/a"] != "1" || files["t/p"] != "1" || files["t/z"] != "stray" || files["n/5.7"] != "left" || files["n/5.0"] != "" {
		t.Errorf("P18.4: the store is %q", files)
	}
	p.capacity(p.d.Used())
	if e := p.run(t, "strays, no room", samples.Work("in gg 1 g:1")); e != api.ErrExeFull || len(slices.Collect(p.d.Names("n/"))) > 0 {
		t.Errorf("P18.4: Run without room = %d", e)
	}
}
