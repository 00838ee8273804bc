package status_test

import (
	"fmt"
	"math/rand/v2"
	"slices"
	"strings"
	"testing"

	"larder/api"
	"larder/journal"
	"larder/samples"
	"larder/status"
	"larder/store"
)

const room = 1 << 20

// way tells commits one behind the other, with the state ahead of each of them and behind the last.
func way() ([]api.Commit, []api.State) {
	commits := []api.Commit{
		commitOf(1, 1, "", "aa 1 files=x", ""), commitOf(2, 1, "", "bb 1 files=y auto", ""), commitOf(3, 3, "aa", "aa 2 files=x,z", "bb"),
		commitOf(4, 4, "bb", "cc 1 files=y", ""), commitOf(5, 4, "", "", "aa cc"), commitOf(6, 6, "aa cc", "", ""),
	}
	commits[2].Steps = []api.Step{{Kind: api.StepRename, From: "n/3.0", To: "t/x"}}
	states := []api.State{{}}
	for i, c := range commits {
		states = append(states, samples.Must(applied(states[i], c)))
	}
	return commits, states
}

func commitFrames(commits ...api.Commit) string {
	text := ""
	for _, c := range commits {
		text += frameOf(commitBytes(c))
	}
	return text
}

func point(s api.State) string { return frameOf(stateBytes(s)) }

// holdLoad holds Load against the oracle, and that nothing is changed.
func holdLoad(t *testing.T, what string, d *store.Store) (api.State, api.Commit, bool, api.Errno) {
	t.Helper()
	ahead := samples.Told(d)
	state, commit, is, e := status.Load(d)
	s, c, i, f := loaded(samples.Seen(d))
	if e != f || is != i || told(state) != told(s) || told(commit) != told(c) {
		t.Fatalf("P16.3: %q: Load = %q, %q, %v, %d, want %q, %q, %v, %d", what, told(state), told(commit), is, e, told(s), told(c), i, f)
	}
	if samples.Told(d) != ahead {
		t.Fatalf("P16.3: %q: Load changes the store: %q, was %q", what, samples.Told(d), ahead)
	}
	return state, commit, is, e
}

// P16.3: each thing that Load may meet.
func TestLoad(t *testing.T) {
	t.Parallel()
	c, s := way()
	junk, whole := frameOf("junk"), commitFrames(c...)
	nothing := "(none)"
	for _, x := range []struct {
		what, status, journal string
		state                 api.State
		last                  int // the last commit's Seq, 0 if there is none
		e                     api.Errno
	}{
		{"no files", nothing, nothing, s[0], 0, api.OK}, {"an empty journal", nothing, "", s[0], 0, api.OK}, {"a checkpoint of nothing", point(s[0]), nothing, s[0], 0, api.OK},
		{"a checkpoint alone", point(s[3]), nothing, s[3], 0, api.OK}, {"a journal alone", nothing, whole, s[6], 6, api.OK}, {"one commit", nothing, commitFrames(c[0]), s[1], 1, api.OK}, {"a checkpoint and what follows", point(s[2]), commitFrames(c[2:]...), s[6], 6, api.OK}, {"a journal of which some are taken up", point(s[2]), whole, s[6], 6, api.OK}, {"one of which all are", point(s[6]), whole, s[6], 6, api.OK}, {"one of which all are, and more", point(s[6]), commitFrames(c[:3]...), s[6], 3, api.OK}, {"one of which just the last is", point(s[4]), commitFrames(c[3]), s[4], 4, api.OK},
		{"a status without bytes", "", nothing, s[0], 0, api.ErrStaFile}, {"a status that is no frame", "junk", nothing, s[0], 0, api.ErrStaFile}, {"two frames", point(s[1]) + point(s[1]), nothing, s[0], 0, api.ErrStaFile}, {"a byte behind", point(s[1]) + "\x00", nothing, s[0], 0, api.ErrStaFile}, {"a byte ahead", "\x00" + point(s[1]), nothing, s[0], 0, api.ErrStaFile}, {"a frame cut off", point(s[1])[:len(point(s[1]))-1], nothing, s[0], 0, api.ErrStaFile}, {"a frame of no checkpoint", junk, nothing, s[0], 0, api.ErrStaFile}, {"a frame of no bytes", frameOf(""), nothing, s[0], 0, api.ErrStaFile}, {"a commit as the checkpoint", commitFrames(c[0]), nothing, s[0], 0, api.ErrStaFile}, {"a checkpoint with a byte behind", frameOf(stateBytes(s[1]) + "\x00"), nothing, s[0], 0, api.ErrStaFile}, {"a checkpoint that may not be", frameOf(strings.Replace(stateBytes(s[1]), "Package: aa", "Package: ab", 1)), nothing, s[0], 0, api.ErrStaFile}, {"a status and a journal that are none", "junk", junk, s[0], 0, api.ErrStaFile},
		{"a torn tail", nothing, whole + "torn", s[6], 6, api.OK}, {"a torn frame", nothing, commitFrames(c[:2]...) + commitFrames(c[2])[:30], s[2], 2, api.OK}, {"all torn", point(s[2]), "torn" + whole, s[2], 0, api.OK}, {"torn in the midst", nothing, commitFrames(c[:2]...) + "torn" + commitFrames(c[2:]...), s[2], 2, api.OK},
		{"junk at the beginning", nothing, junk + whole, s[0], 0, api.ErrStaForm}, {"junk at the end", nothing, whole + junk, s[0], 0, api.ErrStaForm}, {"junk among what is taken up", point(s[6]), junk, s[0], 0, api.ErrStaForm}, {"a checkpoint in the journal", nothing, point(s[0]), s[0], 0, api.ErrStaForm}, {"a frame without bytes", nothing, frameOf(""), s[0], 0, api.ErrStaForm},
		{"the first one is missing", nothing, commitFrames(c[1:]...), s[0], 0, api.ErrStaFit}, {"one behind the checkpoint is missing", point(s[2]), commitFrames(c[3:]...), s[0], 0, api.ErrStaFit}, {"one is missing", nothing, commitFrames(c[0], c[2]), s[0], 0, api.ErrStaFit}, {"one twice", nothing, commitFrames(c[0], c[0]), s[0], 0, api.ErrStaFit}, {"one twice that is taken up", point(s[6]), commitFrames(c[0], c[0]), s[0], 0, api.ErrStaFit}, {"backwards, taken up", point(s[6]), commitFrames(c[1], c[0]), s[0], 0, api.ErrStaFit}, {"one missing of those taken up", point(s[6]), commitFrames(c[0], c[2]), s[0], 0, api.ErrStaFit}, {"one that does not fit", nothing, commitFrames(c[0], commitOf(2, 2, "bb", "", "")), s[0], 0, api.ErrStaFit}, {"one that would not have fitted, taken up", point(s[2]), commitFrames(c[0], commitOf(2, 2, "bb", "", "")), s[2], 2, api.OK}, {"one of another group", point(s[2]), commitFrames(commitOf(3, 2, "", "", "")), s[0], 0, api.ErrStaFit},
		{"no commit behind one that does not follow", nothing, commitFrames(c[0], c[2]) + junk, s[0], 0, api.ErrStaFit}, {"no commit ahead of one that does not follow", nothing, junk + commitFrames(c[2], c[0]), s[0], 0, api.ErrStaForm}, {"no commit behind one that does not fit", nothing, commitFrames(commitOf(1, 1, "bb", "", "")) + junk, s[0], 0, api.ErrStaFit},
	} {
		files := map[string]string{"d/status.new": "left over", "t/x": "x"}
		if x.status != nothing {
			files["d/status"] = x.status
		}
		if x.journal != nothing {
			files["d/journal"] = x.journal
		}
		state, commit, is, e := holdLoad(t, x.what, samples.Disk(files, room))
		if told(state) != told(x.state) || !status.Same(state, x.state) || commit.Seq != x.last || is != (x.last > 0) || e != x.e {
			t.Errorf("P16.3: %q: Load = %q, %q, %v, %d", x.what, told(state), told(commit), is, e)
		}
		if is && told(commit) != told(c[x.last-1]) && !strings.HasPrefix(x.what, "one that would") {
			t.Errorf("P16.3: %q: the last commit is %q", x.what, told(commit))
		}
	}
}

// P16.3: no store, and one without power.
func TestLoadWithout(t *testing.T) {
	t.Parallel()
	hold := func(what string, d *store.Store, want api.Errno) {
		t.Helper()
		if s, c, is, e := status.Load(d); e != want || is || told(s) != told(api.State{}) || told(c) != told(api.Commit{}) {
			t.Errorf("P16.3: %q: %q, %q, %v, %d", what, told(s), told(c), is, e)
		}
	}
	hold("no store", nil, api.ErrArg)
	for _, files := range []map[string]string{{}, {"d/status": "junk"}, {"d/status": point(api.State{})}, {"d/journal": frameOf("junk")}} {
		d := samples.Disk(files, room)
		d.Fuse(0)
		d.Sync()
		hold("no power", d, api.ErrStoDead)
		if !d.Dead() || len(d.Image()) != len(files) {
			t.Error("P16.3: a store without power is changed")
		}
	}
}

// P16.3: the seen files count, durable or not.
func TestLoadSeen(t *testing.T) {
	t.Parallel()
	c, s := way()
	d := samples.Disk(map[string]string{"d/status": point(s[2])}, room)
	d.Write("d/journal", []byte(commitFrames(c[2])))
	if state, _, _, _ := holdLoad(t, "a journal not yet durable", d); state.Seq != 3 {
		t.Errorf("P16.3: %d", state.Seq)
	}
	d.Remove("d/status")
	if _, _, _, e := holdLoad(t, "a status that is removed", d); e != api.ErrStaFit {
		t.Errorf("P16.3: %d", e)
	}
	d.Write("d/status", []byte("junk"))
	holdLoad(t, "a status that is written over", d)
	d.Crash(api.Choice{})
	if state, _, is, _ := holdLoad(t, "behind a crash", d); state.Seq != 2 || is {
		t.Errorf("P16.3: %d, %v", state.Seq, is)
	}
}

// P16.3: all small rows of frames behind all checkpoints, with and without a torn tail.
func TestSmallJournals(t *testing.T) {
	t.Parallel()
	c, s := way()
	frames := []string{frameOf("junk"), commitFrames(commitOf(3, 3, "zz", "", ""))}
	for _, x := range c[:5] {
		frames = append(frames, commitFrames(x))
	}
	points := []string{"(none)", "junk"}
	for _, x := range s {
		points = append(points, point(x))
	}
	counts := map[string]int{}
	for _, row := range samples.Lists(frames, 3) {
		for i, p := range points {
			files := map[string]string{"d/journal": strings.Join(row, "") + []string{"", "torn", frames[3][:20]}[i%3]}
			if p != "(none)" {
				files["d/status"] = p
			}
			_, _, is, e := holdLoad(t, "a row", samples.Disk(files, room))
			counts[fmt.Sprint(int(e), is)]++
		}
	}
	if counts["0 true"] < 50 || counts["0 false"] < 5 || counts["160 false"] < 300 || counts["163 false"] < 300 || counts["165 false"] < 300 {
		t.Errorf("small rows are answered %v", counts)
	}
}

// P16.3, P16.7: long ways of commits, loaded behind each of them, with checkpoints between.
func TestReplay(t *testing.T) {
	t.Parallel()
	r := rand.New(rand.NewPCG(16, 4))
	for range 4 {
		d := samples.Disk(nil, 1<<28)
		s := api.State{}
		for s.Seq < 280 {
			c := mixedCommit(r, s)
			next, e := applied(s, c)
			if e != api.OK {
				continue
			}
			j := samples.Must(journal.Open(d, "d/journal"))
			if e := j.Append([]byte(commitBytes(c))); e != api.OK {
				t.Fatal(e)
			}
			got, last, is, e := status.Load(d)
			if e != api.OK || !is || told(got) != told(next) || told(last) != told(c) {
				t.Fatalf("P16.7: Load = %q, %q, %v, %d, want %q, %q", told(got), told(last), is, e, told(next), told(c))
			}
			s = next
			if r.IntN(60) > 0 {
				continue
			}
			if e := status.Save(d, s); e != api.OK {
				t.Fatalf("P16.4: Save = %d", e)
			}
			if got, last, is, e := status.Load(d); e != api.OK || is || told(got) != told(s) || told(last) != told(api.Commit{}) {
				t.Fatalf("P16.6: Load = %q, %q, %v, %d, want %q", told(got), told(last), is, e, told(s))
			}
		}
	}
}

// P16.7: every commit that fits behind what Load answers, and one that does not.
func TestOneMore(t *testing.T) {
	t.Parallel()
	c, s := way()
	for from := range c {
		for to := from; to < len(c); to++ {
			files := map[string]string{"d/status": point(s[from]), "d/journal": commitFrames(c[slices.Min([]int{from, 1}):to]...)}
			d := samples.Disk(files, room)
			if got, _, _, e := holdLoad(t, "ahead", d); e != api.OK || told(got) != told(s[to]) {
				t.Fatalf("P16.7: Load = %q, %d", told(got), e)
			}
			j := samples.Must(journal.Open(d, "d/journal"))
			j.Append([]byte(commitBytes(c[to])))
			if got, last, is, e := holdLoad(t, "behind", d); e != api.OK || !is || told(got) != told(s[to+1]) || told(last) != told(c[to]) {
				t.Fatalf("P16.7: Load = %q, %q, %d", told(got), told(last), e)
			}
			j.Append([]byte(commitBytes(c[to])))
			if _, _, _, e := holdLoad(t, "once more", d); e != api.ErrStaFit {
				t.Fatalf("P16.3: Load = %d", e)
			}
		}
	}
}
