package audit_test

import (
	"fmt"
	"slices"
	"sync"
	"testing"

	"larder/api"
	"larder/audit"
	"larder/exec"
	"larder/samples"
	"larder/store"
)

// without tells a list without entries of some kinds.
func without(list []api.Wrong, kinds ...int) []api.Wrong {
	return slices.DeleteFunc(slices.Clone(list), func(w api.Wrong) bool { return slices.Contains(kinds, w.Kind) })
}

// behindOpen tells what of a list an Open leaves: nothing that is staged, no new checkpoint.
func behindOpen(list []api.Wrong) []api.Wrong {
	return slices.DeleteFunc(without(list, api.WrongStaged), func(w api.Wrong) bool {
		return w.Kind == api.WrongOther && w.Path == "d/status.new"
	})
}

// within tells whether all of a list is in another one.
func within(list, all []api.Wrong) bool {
	return !slices.ContainsFunc(list, func(w api.Wrong) bool { return !slices.Contains(all, w) })
}

// ahead is an image of a store on which three packages are installed, and their archives.
var ahead = sync.OnceValues(func() (image, archives []api.Blob) {
	s, _, archives := install("aa 1 x:hi y:ho; bb 2 depends=aa q:q w:; cc 1")
	return s.Image(), archives
})

// damage is what can happen to the tree of packages, each by itself.
func damage() []change {
	return []change{lay("t/x", "ha"), drop("t/y"), lay("t/q", "qqq"), lay("t/w", "1"), lay("t/b//c", "stray"), lay("n/odd", "staged"), lay("d/other", "other")}
}

// damaged does some of the damage to the packages, each bit of a number one.
func damaged(some int) (*store.Store, *exec.Exec, []api.Blob) {
	image, archives := ahead()
	s := samples.Must(store.Load(image, room))
	x := samples.Must(exec.Open(s))
	for i, c := range damage() {
		if some>>i&1 == 1 {
			do(s, c)
		}
	}
	return s, x, archives
}

// P21.4: all choices of damage, with all choices of archives: Check, Plan, Run, Check.
func TestMended(t *testing.T) {
	t.Parallel()
	mended := 0
	for some := range 1 << len(damage()) {
		for given := range 4 {
			s, x, archives := damaged(some)
			held := x.State().Held
			var handed []api.Blob
			for i := range 2 {
				if given>>i&1 == 1 {
					handed = append(handed, archives[i])
				}
			}
			what := fmt.Sprintf("the damage %b, the archives %b", some, given)
			wrong := holdCheck(t, what, s, held)
			w, left := holdPlan(t, what, held, wrong, handed)
			if given == 3 && len(left) != some>>4&1+some>>5&1+some>>6&1 {
				t.Fatalf("P21.4: %s: Plan leaves %v", what, left)
			}
			if len(w.Mend) == 0 {
				if e := x.Run(w); e != api.ErrExeWork {
					t.Errorf("P21.2: %s: Run of an empty work = %d", what, e)
				}
				continue
			}
			mended++
			if e := x.Run(w); e != api.OK {
				t.Fatalf("P21.4: %s: Run = %d", what, e)
			}
			if got := holdCheck(t, what, s, held); !slices.Equal(got, left) {
				t.Fatalf("P21.4: %s: behind it Check = %v, want %v", what, got, left)
			}
			if state := x.State(); told(state.Held) != told(held) || state.Seq != 4 || state.Past[3].Group != 4 {
				t.Fatalf("P21.4: %s: behind it the state is %s", what, told(state))
			}
		}
	}
	if mended < 200 {
		t.Errorf("P21.4: %d works were run", mended)
	}
}

// P21.4: the work takes names under n/ that lay there: of what was left these are not told any more.
func TestMendedOverStaged(t *testing.T) {
	t.Parallel()
	s, x, archives := damaged(0)
	do(s, lay("t/x", "ha"), drop("t/y"), lay("n/4.0", "left"), lay("n/4.1", "left"), lay("n/4.2", "left"), lay("n/5.0", "left"))
	held := x.State().Held
	w, left := holdPlan(t, "staged ones", held, holdCheck(t, "staged ones", s, held), archives)
	if !slices.Equal(left, wrongs("staged n/4.0; staged n/4.1; staged n/4.2; staged n/5.0")) {
		t.Fatalf("P21.2: Plan leaves %v", left)
	}
	if e := x.Run(w); e != api.OK {
		t.Fatalf("P21.4: Run = %d", e)
	}
	if got := holdCheck(t, "behind it", s, held); !slices.Equal(got, left[2:]) {
		t.Errorf("P21.4: behind it Check = %v", got)
	}
}

// P21.4: there is no room: what is wrong stays as it is, but that nothing is staged any more; with room it goes.
func TestMendedWithoutRoom(t *testing.T) {
	t.Parallel()
	for _, more := range []int{-1, 0, 1, 3, 40, api.Reserve, api.Reserve + 1} {
		s, x, archives := damaged(1<<len(damage()) - 1)
		held := x.State().Held
		what := fmt.Sprintf("room for %d bytes", more)
		wrong := holdCheck(t, what, s, held)
		w, left := holdPlan(t, what, held, wrong, archives)
		s.SetCapacity(s.Used() + more)
		for range 2 {
			if e := x.Run(w); e != api.ErrExeFull {
				t.Fatalf("P21.4: %s: Run = %d", what, e)
			}
			if got := holdCheck(t, what, s, held); !slices.Equal(got, without(wrong, api.WrongStaged)) {
				t.Errorf("P21.5: %s: behind ErrExeFull Check = %v", what, got)
			}
		}
		s.SetCapacity(room)
		if e := x.Run(w); e != api.OK {
			t.Fatalf("P21.4: %s: with room Run = %d", what, e)
		}
		if got := holdCheck(t, what, s, held); !slices.Equal(got, without(left, api.WrongStaged)) {
			t.Errorf("P21.4: %s: behind it Check = %v", what, got)
		}
	}
}

// choices tells what crashes keep of what is pending.
func choices() [][]int {
	return append(samples.Lists([]int{0, 1, 3}, 4), []int{1, 1, 1, 1, 1, 1, 1, 1}, []int{0, 0, 0, 0, 1, 1, 1}, []int{0, 1, 0, 1, 0, 1, 0, 1}, []int{2, 2, 2, 2, 2, 2}, []int{40})
}

// cutOff runs a mending over some of the damage with power for so many calls; it tells the store, and whether the power went.
func cutOff(t *testing.T, some int, w api.Work, calls int) (*store.Store, bool) {
	t.Helper()
	s, x, _ := damaged(some)
	s.Fuse(calls)
	e := x.Run(w)
	if e != api.OK && e != api.ErrStoDead {
		t.Fatalf("P21.4: power for %d calls: Run = %d", calls, e)
	}
	if _, f := audit.Check(s, x.State().Held); f != e {
		t.Fatalf("P21.1: power for %d calls: Check = %d", calls, f)
	}
	return s, e == api.ErrStoDead
}

// reopen lets a crash come and opens the store, in the first Open with power for so many calls, with no room at all.
func reopen(t *testing.T, s *store.Store, kept []int, second int) *exec.Exec {
	t.Helper()
	s.SetCapacity(0)
	s.Crash(api.Choice{Kept: kept})
	s.Fuse(second)
	if _, e := exec.Open(s); e == api.ErrStoDead {
		s.Crash(api.Choice{Kept: kept})
	}
	s.Fuse(-1)
	x, e := exec.Open(s)
	if e != api.OK {
		t.Fatalf("Open = %d", e)
	}
	return x
}

// P21.4, P21.5: the power goes at each call of a mending, and in the Open that follows: all is mended then, or as wrong as ahead.
func TestMendingCutOff(t *testing.T) {
	t.Parallel()
	const some = 1<<7 - 1
	s, x, archives := damaged(some)
	held := x.State().Held
	wrong := holdCheck(t, "ahead", s, held)
	w, left := holdPlan(t, "ahead", held, wrong, archives)
	counts := map[string]int{}
	for calls := 0; ; calls++ {
		if _, dead := cutOff(t, some, w, calls); !dead {
			break
		}
		for _, kept := range choices() {
			for second := -1; second < 4; second++ {
				what := fmt.Sprintf("power for %d calls, kept %v, then for %d calls", calls, kept, second)
				s, _ := cutOff(t, some, w, calls)
				x := reopen(t, s, kept, second)
				got := holdCheck(t, what, s, x.State().Held)
				switch {
				case slices.Equal(got, behindOpen(wrong)):
					counts["as wrong"]++
				case slices.Equal(got, behindOpen(left)):
					counts["mended"]++
				default:
					t.Fatalf("P21.4: %s: behind the Open Check = %v", what, got)
				}
			}
		}
	}
	if counts["as wrong"] < 1000 || counts["mended"] < 1000 {
		t.Errorf("P21.4: mendings that were cut off are %v", counts)
	}
}

// P21.4: files that are right are laid anew, since somebody says that they are wrong: whatever crash comes, they are right.
func TestMendingOfRightFiles(t *testing.T) {
	t.Parallel()
	_, x, archives := damaged(0)
	w, left := holdPlan(t, "right files", x.State().Held, wrongs("sum w; missing x; size q; missing y"), archives)
	if len(w.Mend) != 4 || len(left) > 0 {
		t.Fatalf("P21.2: Plan = %s, %v", told(w), left)
	}
	for calls := 0; ; calls++ {
		s, dead := cutOff(t, 0, w, calls)
		if !dead {
			if got := holdCheck(t, "right files", s, samples.Must(exec.Open(s)).State().Held); len(got) > 0 {
				t.Errorf("P21.4: behind the mending of right files Check = %v", got)
			}
			break
		}
		for _, kept := range choices() {
			for second := -1; second < 3; second++ {
				what := fmt.Sprintf("power for %d calls, kept %v, then for %d calls", calls, kept, second)
				s, _ := cutOff(t, 0, w, calls)
				x := reopen(t, s, kept, second)
				if got := holdCheck(t, what, s, x.State().Held); len(got) > 0 {
					t.Fatalf("P21.4: %s: Check = %v", what, got)
				}
			}
		}
	}
}
