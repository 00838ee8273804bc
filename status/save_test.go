package status_test

import (
	"fmt"
	"strings"
	"testing"

	"larder/api"
	"larder/samples"
	"larder/status"
	"larder/store"
)

// P16.4: just the calls that DOC names, and what is there behind them.
func TestSave(t *testing.T) {
	t.Parallel()
	c, s := way()
	for _, x := range []struct {
		what  string
		files map[string]string
		calls int
	}{
		{"nothing there", map[string]string{}, 4}, {"a journal", map[string]string{"d/journal": commitFrames(c...)}, 6}, {"a journal without bytes", map[string]string{"d/journal": ""}, 6}, {"a torn journal", map[string]string{"d/journal": "torn"}, 6},
		{"a checkpoint", map[string]string{"d/status": point(s[1])}, 4}, {"a checkpoint and a journal", map[string]string{"d/status": point(s[1]), "d/journal": commitFrames(c[1:]...)}, 6}, {"a new one left over", map[string]string{"d/status.new": "left over", "d/journal": commitFrames(c...)}, 6}, {"files that are no checkpoint", map[string]string{"d/status": "junk", "d/status.new": "junk", "t/x": "x"}, 4},
	} {
		for _, state := range s {
			d := samples.Disk(x.files, room)
			if e := status.Save(d, state); e != api.OK || d.Calls() != x.calls || d.Pending() != 0 {
				t.Errorf("P16.4: %s: Save = %d, with %d calls, %d pending", x.what, e, d.Calls(), d.Pending())
			}
			want := map[string]string{"d/status": point(state)}
			if x.files["t/x"] != "" {
				want["t/x"] = "x"
			}
			if got := samples.Seen(d); fmt.Sprintf("%q", got) != fmt.Sprintf("%q", want) {
				t.Errorf("P16.4: %s: Save leaves %q, want %q", x.what, got, want)
			}
			if got, last, is, e := holdLoad(t, x.what, d); e != api.OK || is || last.Seq != 0 || !status.Same(got, state) {
				t.Errorf("P16.6: %s: Load = %s, %v, %d", x.what, told(got), is, e)
			}
		}
	}
}

// P16.4: which error comes first, and that nothing is changed.
func TestSaveWrong(t *testing.T) {
	t.Parallel()
	broken := api.State{Seq: -1}
	dead := samples.Disk(map[string]string{"d/journal": "x"}, room)
	dead.Fuse(0)
	dead.Sync()
	for _, x := range []struct {
		what string
		d    *store.Store
		s    api.State
		want api.Errno
	}{
		{"no store", nil, api.State{}, api.ErrArg}, {"no store, a state that may not be", nil, broken, api.ErrArg}, {"a state that may not be", samples.Disk(nil, room), broken, api.ErrStaState}, {"a state that may not be, no room", samples.Disk(nil, 0), broken, api.ErrStaState}, {"a state that may not be, no power", dead, broken, api.ErrStaState}, {"no power", dead, api.State{}, api.ErrStoDead}, {"no room", samples.Disk(nil, 44), api.State{}, api.ErrStoFull}, {"just enough room", samples.Disk(nil, 45), api.State{}, api.OK},
	} {
		if e := status.Save(x.d, x.s); e != x.want {
			t.Errorf("P16.4: %s: Save = %d, want %d", x.what, e, x.want)
		}
		if x.want != api.OK && x.d.Calls() != 0 {
			t.Errorf("P16.4: %s: Save has made %d calls", x.what, x.d.Calls())
		}
	}
}

// twins tells two stores that are the same.
func twins(files map[string]string, capacity, fuse int) (*store.Store, *store.Store) {
	a, b := samples.Disk(files, capacity), samples.Disk(files, capacity)
	a.Fuse(fuse)
	b.Fuse(fuse)
	return a, b
}

// places tells stores from which Load answers the fourth state, with what a crash may have left there.
func places() (map[string]map[string]string, api.State) {
	c, s := way()
	torn := commitFrames(c[4])[:33]
	return map[string]map[string]string{
		"a journal":                 {"d/journal": commitFrames(c[:4]...)},
		"a torn journal":            {"d/journal": commitFrames(c[:4]...) + torn},
		"both":                      {"d/status": point(s[2]), "d/journal": commitFrames(c[2:4]...)},
		"both, some taken up":       {"d/status": point(s[2]), "d/journal": commitFrames(c[:4]...)},
		"both, all taken up":        {"d/status": point(s[4]), "d/journal": commitFrames(c[:4]...)},
		"both, others taken up":     {"d/status": point(s[4]), "d/journal": commitFrames(c[:2]...) + torn},
		"a checkpoint":              {"d/status": point(s[4])},
		"a checkpoint, new bytes":   {"d/status": point(s[4]), "d/status.new": point(s[2])},
		"both, a new one left over": {"d/status": point(s[1]), "d/journal": commitFrames(c[:4]...), "d/status.new": point(s[3])[:40]},
		"a journal, a long new one": {"d/journal": commitFrames(c[:4]...), "d/status.new": strings.Repeat("x", 3000)},
	}, s[4]
}

// P16.4: room, and power for so many calls: answers, calls and files as the oracle has them.
func TestSaveAgainstOracle(t *testing.T) {
	t.Parallel()
	list, state := places()
	counts := map[string]int{}
	size := len(point(state))
	for what, files := range list {
		used := samples.Disk(files, room).Used()
		for _, capacity := range []int{room, used, used + size, used + size - 1, used + size - len(files["d/status.new"]), used + size - len(files["d/status.new"]) - 1, 0} {
			for fuse := -1; fuse < 8; fuse++ {
				a, b := twins(files, capacity, fuse)
				got, want := status.Save(a, state), saved(b, state)
				if got != want || samples.Told(a) != samples.Told(b) {
					t.Fatalf("P16.4: %s, room for %d, power for %d calls: Save = %d, want %d; the store is %s, want %s", what, capacity, fuse, got, want, samples.Told(a), samples.Told(b))
				}
				counts[fmt.Sprint(int(got), " ", a.Calls())]++
			}
		}
	}
	for _, want := range []string{"0 6", "0 4", "142 0", "142 2", "143 0", "143 1", "143 2", "143 3", "143 4", "143 5"} {
		if counts[want] < 3 {
			t.Errorf("saves are answered %q only %d times: %v", want, counts[want], counts)
		}
	}
}

// crashes tells what crashes may keep of the last operation: nothing, all, each of some first parts.
func crashes(size int) []int { return []int{0, 1, 2, 2 + size/2, 1 + size} }

// P16.6: power for so many calls, with and without room, a crash that keeps what it keeps, and again.
func TestCrashes(t *testing.T) {
	t.Parallel()
	list, state := places()
	size := len(point(state))
	counts := map[string]int{}
	for what, files := range list {
		used := samples.Disk(files, room).Used()
		for _, capacity := range []int{room, used + 1} {
			for _, fuses := range samples.Lists([]int{-1, 0, 1, 2, 3, 4, 5, 6}, 2) {
				for _, kept := range crashes(size) {
					d := samples.Disk(files, capacity)
					for _, fuse := range fuses {
						d.Fuse(fuse)
						e := status.Save(d, state)
						d.Crash(api.Choice{Kept: []int{kept}})
						got, _, _, f := status.Load(d)
						if f != api.OK || !status.Same(got, state) {
							t.Fatalf("P16.6: %s, room for %d, power for %v calls, kept %d: Save = %d, Load = %s, %d", what, capacity, fuses, kept, e, told(got), f)
						}
						counts[fmt.Sprint(int(e))]++
					}
				}
			}
		}
	}
	if counts["0"] < 1000 || counts["142"] < 500 || counts["143"] < 1000 {
		t.Errorf("saves are answered %v", counts)
	}
}

// P16.6: a crash at every byte of the new checkpoint.
func TestTornCheckpoint(t *testing.T) {
	t.Parallel()
	list, state := places()
	for what, files := range list {
		for kept := range len(point(state)) + 4 {
			d := samples.Disk(files, room)
			d.Fuse(0)
			e := status.Save(d, state)
			d.Crash(api.Choice{Kept: []int{kept}})
			if got, _, _, f := status.Load(d); e != api.ErrStoDead || f != api.OK || !status.Same(got, state) {
				t.Fatalf("P16.6: %s, kept %d: Save = %d, Load = %s, %d", what, kept, e, told(got), f)
			}
		}
	}
}
