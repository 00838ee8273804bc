package exec_test

import (
	"fmt"
	"maps"
	"slices"
	"strings"
	"testing"

	"larder/api"
	"larder/exec"
	"larder/journal"
	"larder/samples"
	"larder/status"
	"larder/store"
)

// opening opens a store, and tells the error alone.
func opening(d *store.Store) api.Errno {
	_, e := exec.Open(d)
	return e
}

// with tells files with others besides, or in their place.
func with(files map[string]string, more ...string) map[string]string {
	all := map[string]string{}
	maps.Copy(all, files)
	for i := 0; i < len(more); i += 2 {
		all[more[i]] = more[i+1]
	}
	return all
}

// commits tells frames of commits, one behind the other.
func commits(list ...api.Commit) string {
	var b strings.Builder
	for _, c := range list {
		b.Write(frameOf(c))
	}
	return b.String()
}

func inOf(text string) []api.Held { return []api.Held{samples.Held(text)} }

func frameOfBytes(body string) string { return string(samples.Must(journal.Encode([]byte(body)))) }

// openCase is what a store has, and what Open answers.
type openCase struct {
	what  string
	files map[string]string
	want  api.Errno
}

// loadCases tells stores that can't be read, and such that can.
func loadCases() []openCase {
	first := api.Commit{Seq: 1, Group: 1, In: inOf("aa 1")}
	second := api.Commit{Seq: 2, Group: 2, Marks: []string{"aa"}}
	third := api.Commit{Seq: 3, Group: 3, Marks: []string{"aa"}}
	state := api.State{Seq: 1, Group: 1, Held: inOf("aa 1")}
	point := string(pointOf(state))
	return []openCase{
		{"nothing", nil, api.OK},
		{"a checkpoint", map[string]string{"d/status": point}, api.OK},
		{"a checkpoint without bytes", map[string]string{"d/status": ""}, api.ErrStaFile},
		{"a checkpoint that is none", map[string]string{"d/status": "junk"}, api.ErrStaFile},
		{"a torn checkpoint", map[string]string{"d/status": point[:len(point)-1]}, api.ErrStaFile},
		{"a checkpoint and a byte", map[string]string{"d/status": point + "x"}, api.ErrStaFile},
		{"two checkpoints", map[string]string{"d/status": point + point}, api.ErrStaFile},
		{"a commit in the place of a checkpoint", map[string]string{"d/status": commits(first)}, api.ErrStaFile},
		{"a journal", map[string]string{"d/journal": commits(first, second)}, api.OK},
		{"a journal without bytes", map[string]string{"d/journal": ""}, api.OK},
		{"a torn journal", map[string]string{"d/journal": commits(first) + commits(second)[:20]}, api.OK},
		{"a journal that is torn from its beginning on", map[string]string{"d/journal": "junk"}, api.OK},
		{"a frame of no commit", map[string]string{"d/journal": frameOfBytes("junk")}, api.ErrStaForm},
		{"a frame of a checkpoint", map[string]string{"d/journal": point}, api.ErrStaForm},
		{"a number left out", map[string]string{"d/journal": commits(first, third)}, api.ErrStaFit},
		{"a number twice", map[string]string{"d/journal": commits(first, first)}, api.ErrStaFit},
		{"a number too great", map[string]string{"d/journal": commits(second)}, api.ErrStaFit},
		{"a commit that does not fit", map[string]string{"d/journal": commits(api.Commit{Seq: 1, Group: 1, Out: []string{"aa"}})}, api.ErrStaFit},
		{"a checkpoint and what follows", map[string]string{"d/status": point, "d/journal": commits(second, third)}, api.OK},
		{"a checkpoint that has taken up the journal", map[string]string{"d/status": point, "d/journal": commits(first)}, api.OK},
		{"a checkpoint that has taken up some", map[string]string{"d/status": point, "d/journal": commits(first, second)}, api.OK},
		{"a checkpoint and what does not follow", map[string]string{"d/status": point, "d/journal": commits(third)}, api.ErrStaFit},
		{"a checkpoint that is none and a journal", map[string]string{"d/status": "junk", "d/journal": commits(first)}, api.ErrStaFile},
		{"a new checkpoint alone", map[string]string{"d/status.new": point}, api.OK},
	}
}

// stateCases tells stores whose state, or whose last steps, may not be.
func stateCases() []openCase {
	broken := api.State{Seq: 1, Group: 1, Held: inOf("aa 1 depends=zz")}
	point := string(pointOf(broken))
	bad := []api.Step{{Kind: 3, From: "n/1.0", To: "t/x"}}
	twice := []api.Step{{Kind: 2, To: "t/x"}, {Kind: 2, To: "t/x"}}
	one := func(steps ...api.Step) api.Commit {
		return api.Commit{Seq: 1, Group: 1, In: inOf("aa 1"), Steps: steps}
	}
	second := api.Commit{Seq: 2, Group: 2, Marks: []string{"aa"}}
	return []openCase{
		{"a checkpoint that is not Valid", map[string]string{"d/status": point}, api.ErrExeWork},
		{"a journal that leads to what is not Valid", map[string]string{"d/journal": commits(api.Commit{Seq: 1, Group: 1, In: inOf("aa 1 pre=aa")})}, api.ErrExeWork},
		{"two that conflict", map[string]string{"d/journal": commits(api.Commit{Seq: 1, Group: 1, In: []api.Held{samples.Held("aa 1 conflicts=bb"), samples.Held("bb 1")}})}, api.ErrExeWork},
		{"what is not Valid, made Valid by the journal", map[string]string{"d/status": point, "d/journal": commits(api.Commit{Seq: 2, Group: 2, In: inOf("zz 1")})}, api.OK},
		{"a journal that goes through what is not Valid", map[string]string{"d/journal": commits(api.Commit{Seq: 1, Group: 1, In: inOf("aa 1 depends=zz")}, api.Commit{Seq: 2, Group: 2, Out: []string{"aa"}})}, api.OK},
		{"a step of no kind", map[string]string{"d/journal": commits(one(bad...))}, api.ErrTreeStep},
		{"a step without a kind", map[string]string{"d/journal": commits(one(api.Step{}))}, api.ErrTreeStep},
		{"a step to the database", map[string]string{"d/journal": commits(one(api.Step{Kind: 1, From: "n/1.0", To: "d/status"}))}, api.ErrTreeStep},
		{"a step from the tree", map[string]string{"d/journal": commits(one(api.Step{Kind: 1, From: "t/y", To: "t/x"}))}, api.ErrTreeStep},
		{"a removal of what is staged", map[string]string{"d/journal": commits(one(api.Step{Kind: 2, To: "n/1.0"}))}, api.ErrTreeStep},
		{"two steps to one path", map[string]string{"d/journal": commits(one(twice...))}, api.ErrTreeTwice},
		{"two steps from one file", map[string]string{"d/journal": commits(one(api.Step{Kind: 1, From: "n/1.0", To: "t/x"}, api.Step{Kind: 1, From: "n/1.0", To: "t/y"}))}, api.ErrTreeTwice},
		{"two steps to one path, and one of no kind", map[string]string{"d/journal": commits(one(append(twice, bad...)...))}, api.ErrTreeStep},
		{"odd steps of an earlier frame", map[string]string{"d/journal": commits(one(bad...), second)}, api.OK},
		{"odd steps of the last whole frame", map[string]string{"d/journal": commits(one(bad...)) + "torn"}, api.ErrTreeStep},
		{"odd steps of a frame that a checkpoint has taken up", map[string]string{"d/status": string(pointOf(api.State{Seq: 1, Group: 1, Held: inOf("aa 1")})), "d/journal": commits(one(bad...))}, api.ErrTreeStep},
		{"not Valid, with odd steps", map[string]string{"d/journal": commits(api.Commit{Seq: 1, Group: 1, In: inOf("aa 1 depends=zz"), Steps: bad})}, api.ErrExeWork},
		{"no commit behind odd steps", map[string]string{"d/journal": commits(one(bad...)) + frameOfBytes("junk")}, api.ErrStaForm},
		{"no checkpoint, and odd steps", map[string]string{"d/status": "junk", "d/journal": commits(one(bad...))}, api.ErrStaFile},
	}
}

// P18.1: each error, in its order; with an error nothing is changed, whatever is left over.
func TestOpen(t *testing.T) {
	t.Parallel()
	for _, c := range slices.Concat(loadCases(), stateCases()) {
		for _, files := range []map[string]string{c.files, with(c.files, "n/1.0", "left", "n/odd", "left", "t/x", "old", "t/stray", "1", "d/status.new", "left", "other", "1"), with(c.files, "d/journal", c.files["d/journal"]+"torn")} {
			d := samples.Disk(files, 0)
			_, e := opened(t, c.what, d, samples.Disk(files, 0))
			if e != c.want || e != api.OK && (d.Calls() > 0 || d.Pending() > 0 || told(samples.Seen(d)) != told(files)) {
				t.Errorf("P18.1: %s: Open = %d, want %d, with %d calls", c.what, e, c.want, d.Calls())
			}
			if e == api.OK {
				calls := d.Calls()
				if x, e := exec.Open(d); x == nil || e != api.OK || d.Calls() != calls || d.Pending() > 0 || len(slices.Collect(d.Names("n/"))) > 0 || there(d, "d/status.new") {
					t.Errorf("P18.1: %s: a second Open = %d, with %d calls more", c.what, e, d.Calls()-calls)
				}
			}
		}
	}
}

// P18.1: no store, and one without power: ahead of all else.
func TestOpenNothing(t *testing.T) {
	t.Parallel()
	if x, e := exec.Open(nil); x != nil || e != api.ErrArg {
		t.Errorf("P18.1: Open(nil) = %v, %d", x, e)
	}
	for _, c := range slices.Concat(loadCases(), stateCases()) {
		d := samples.Disk(with(c.files, "n/1.0", "left", "d/status.new", "left"), room)
		d.Fuse(0)
		d.Sync()
		if x, e := exec.Open(d); x != nil || e != api.ErrStoDead || d.Calls() > 0 || d.Pending() > 0 {
			t.Errorf("P18.1: %s: Open without power = %v, %d", c.what, x, e)
		}
	}
}

// Which changing calls Open makes, in their order.
func TestCallsOfOpen(t *testing.T) {
	t.Parallel()
	d, _ := play("in aa 1 p:1 x:2", "in bb 1 q:3", "out aa; in aa 2 r:4 x:5; mend q:3")
	done := samples.Seen(d)
	whole := len(done["d/journal"])
	undone := with(done, "t/p", "1", "t/x", "2", "n/3.0", "4", "n/3.1", "5", "n/3.2", "3")
	delete(undone, "t/r")
	lay := []call{rename("n/3.0", "t/r"), rename("n/3.1", "t/x"), remove("t/p"), rename("n/3.2", "t/q")}
	cutOff := []call{cut("d/journal", whole), sync}
	image := func(files map[string]string, more ...string) []api.Blob {
		return samples.Disk(with(files, more...), 0).Image()
	}
	for _, c := range []struct {
		what  string
		image []api.Blob
		calls []call
	}{
		{"nothing to do", image(done), nil},
		{"a torn journal", image(done, "d/journal", done["d/journal"]+"torn"), cutOff},
		{"steps", image(undone), slices.Concat(lay, []call{sync})},
		{"some steps", image(done, "n/3.1", "5", "t/p", "1"), []call{lay[1], lay[2], sync}},
		{"a step that is a removal", image(done, "t/p", "1"), []call{lay[2], sync}},
		{"staged files", image(done, "n/4.0", "1", "n/3.3", "2", "n/", "3", "n/x", "4"), []call{remove("n/"), remove("n/3.3"), remove("n/4.0"), remove("n/x"), sync}},
		{"files of an earlier commit's steps", image(done, "n/2.0", "3", "n/1.1", "2"), []call{remove("n/1.1"), remove("n/2.0"), sync}},
		{"a new checkpoint", image(done, "d/status.new", "left"), []call{remove("d/status.new"), sync}},
		{"a new checkpoint without bytes", image(done, "d/status.new", ""), []call{remove("d/status.new"), sync}},
		{"all of it", image(undone, "d/journal", done["d/journal"]+"torn", "n/4.0", "1", "d/status.new", "left"), slices.Concat(cutOff, lay, []call{remove("n/4.0"), remove("d/status.new"), sync})},
		{"other files", image(done, "t/stray", "1", "n", "2", "d/status.old", "3", "N/1.0", "4"), nil},
	} {
		holdCalls(t, "P18.1: "+c.what, c.image, 0, opening, api.OK, c.calls...)
	}
	empty := samples.Disk(map[string]string{"d/journal": "junk"}, 0).Image()
	holdCalls(t, "P18.1: a journal without a frame", empty, 0, opening, api.OK, cut("d/journal", 0), sync)
}

// P18.1: what is left over, in every choice, and the power that goes at each call: as the oracle has it.
func TestOpenAgainstOracle(t *testing.T) {
	t.Parallel()
	d, _ := play("in aa 1 p:1 x:2", "checkpoint", "in bb 1 q:3", "out aa; in aa 2 r:4 x:5; mend q:3")
	done := samples.Seen(d)
	leftovers := [][]string{{"n/3.0", "4"}, {"n/3.1", "5"}, {"n/3.2", "3"}, {"t/p", "1"}, {"n/4.0", "6", "n/1.0", "1"}, {"d/status.new", "new"}, {"d/journal", done["d/journal"] + "LAR\x01"}}
	counts := map[string]int{}
	for choice := range 1 << len(leftovers) {
		files := done
		for i, more := range leftovers {
			if choice>>i&1 == 1 {
				files = with(files, more...)
			}
		}
		for fuse := -1; fuse < 11; fuse++ {
			a, b := samples.Disk(files, 0), samples.Disk(files, 0)
			a.Fuse(fuse)
			b.Fuse(fuse)
			what := fmt.Sprintf("choice %b, power for %d calls", choice, fuse)
			p, e := opened(t, what, a, b)
			counts[fmt.Sprint(int(e))]++
			if e == api.OK && (p.x.Frames() != 2 || p.x.State().Seq != 3) {
				t.Errorf("P18.2: %s: %d frames, Seq %d", what, p.x.Frames(), p.x.State().Seq)
			}
		}
	}
	if counts["0"] < 200 || counts["143"] < 200 {
		t.Errorf("Opens are answered %v", counts)
	}
}

// P18.1, P18.2: the state is what the checkpoint and the whole frames say, and all frames count, those too that the checkpoint has taken up.
func TestOpenTells(t *testing.T) {
	t.Parallel()
	lines := []string{"in aa 1 p:1", "in bb 1 q:3; group 1", "mark aa", "out bb"}
	d, states := play(lines...)
	frames := samples.Seen(d)["d/journal"]
	files := with(samples.Seen(d))
	for taken, state := range states {
		disk := samples.Disk(with(files, "d/status", string(pointOf(state))), 0)
		x, e := exec.Open(disk)
		if e != api.OK || told(x.State()) != told(states[4]) || x.Frames() != 4 {
			t.Errorf("P18.1: a checkpoint that has taken up %d: Open = %d, %d frames", taken, e, x.Frames())
		}
	}
	for n := range len(frames) + 1 {
		bodies, whole := journal.Decode([]byte(frames[:n]))
		disk := samples.Disk(map[string]string{"d/journal": frames[:n]}, 0)
		x, e := exec.Open(disk)
		if e != api.OK || told(x.State()) != told(states[len(bodies)]) || x.Frames() != len(bodies) || samples.Seen(disk)["d/journal"] != frames[:whole] {
			t.Fatalf("P18.1: a journal of %d bytes: Open = %d, %d frames", n, e, x.Frames())
		}
	}
}

// P18.1: Open goes on where a checkpoint was cut off, and its Exec runs works behind what is there.
func TestOpenGoesOn(t *testing.T) {
	t.Parallel()
	lines := []string{"in aa 1 p:1 x:2", "in bb 1 q:3", "out aa; in aa 2 r:4 x:5; mend q:3"}
	for n := range len(lines) + 1 {
		for _, more := range [][]string{nil, {"d/status.new", "torn"}, {"n/4.0", "1"}} {
			d, states := play(lines...)
			state := states[n]
			files := with(samples.Seen(d), "d/status", string(pointOf(state)))
			p, e := opened(t, "a checkpoint that was cut off", samples.Disk(with(files, more...), room), samples.Disk(with(files, more...), room))
			if e != api.OK {
				t.Fatalf("P18.1: Open = %d", e)
			}
			for _, text := range []string{"out bb", "in cc 1 c:1; group 4", "mark cc"} {
				if e := p.run(t, "behind a checkpoint that was cut off", samples.Work(text)); e != api.OK {
					t.Errorf("P18.4: Run = %d", e)
				}
			}
			if again, e := exec.Open(p.d); e != api.OK || told(again.State()) != told(p.m.state) || again.Frames() != 6 {
				t.Errorf("P18.1: Open = %d, %d frames", e, again.Frames())
			}
			if got, _, _, e := status.Load(p.d); e != api.OK || !status.Same(got, p.m.state) {
				t.Errorf("P18.7: Load = %d", e)
			}
		}
	}
}
