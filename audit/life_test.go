package audit_test

import (
	"fmt"
	"maps"
	"math/rand/v2"
	"slices"
	"strings"
	"testing"

	"larder/api"
	"larder/audit"
	"larder/exec"
	"larder/samples"
	"larder/store"
)

// P21.5: behind works, refusals and Opens nothing is wrong that was not ahead.
func TestLife(t *testing.T) {
	t.Parallel()
	s := samples.Must(store.New(room))
	x := samples.Must(exec.Open(s))
	run := func(text string, want api.Errno, told string) {
		t.Helper()
		if e := x.Run(samples.Work(text)); e != want {
			t.Errorf("Run of %q = %d, want %d", text, e, want)
		}
		if got := holdCheck(t, text, s, x.State().Held); !slices.Equal(got, wrongs(told)) {
			t.Errorf("P21.5: behind %q Check = %v, want %v", text, got, wrongs(told))
		}
	}
	open := func(told string) {
		t.Helper()
		x = samples.Must(exec.Open(s))
		if got := holdCheck(t, "an Open", s, x.State().Held); !slices.Equal(got, wrongs(told)) {
			t.Errorf("P21.5: behind an Open Check = %v, want %v", got, wrongs(told))
		}
	}
	open("")
	run("in aa 1 x:hi y:ho", api.OK, "")
	run("in bb 1 x:hi", api.ErrExeWork, "")
	run("in bb 1 q:q; mark aa", api.OK, "")
	do(s, lay("t/x", "ha"), drop("t/q"), lay("t/z", ""), lay("t/new", "old"), lay("n/9.0", ""), lay("n/9.1", ""), lay("d/status.new", ""), lay("d/other", ""))
	const laid = "stray new; stray z; staged n/9.0; staged n/9.1; other d/other; other d/status.new"
	run("mark bb", api.OK, "sum x aa 1; missing q bb 1; "+laid)
	run("out zz", api.ErrExeWork, "sum x aa 1; missing q bb 1; "+laid)
	run("out bb", api.OK, "sum x aa 1; "+laid)
	run("in bb 1 new:n", api.OK, "sum x aa 1; stray z; staged n/9.0; staged n/9.1; other d/other; other d/status.new")
	s.SetCapacity(s.Used() + 9)
	run("in cc 1 c:c", api.ErrExeFull, "sum x aa 1; stray z; other d/other; other d/status.new")
	s.SetCapacity(room)
	do(s, lay("n/8.0", ""))
	if e := x.Checkpoint(); e != api.OK {
		t.Fatalf("Checkpoint = %d", e)
	}
	run("mark bb", api.OK, "sum x aa 1; stray z; staged n/8.0; other d/other")
	open("sum x aa 1; stray z; other d/other")
	open("sum x aa 1; stray z; other d/other")
	do(s, lay("d/status.new", "odd"), lay("n/", ""))
	open("sum x aa 1; stray z; other d/other")
	run("out aa; in aa 2 x:hi z:zz", api.OK, "other d/other")
	run("out aa bb", api.OK, "other d/other")
	do(s, drop("d/other"))
	open("")
}

// P21.5: what a hand lays under a name that the last commit has staged, the next Open lays in the tree: it is wrong there.
func TestLaidForAnOpen(t *testing.T) {
	t.Parallel()
	s := samples.Must(store.New(room))
	x := samples.Must(exec.Open(s))
	samples.Must(0, x.Run(samples.Work("in aa 1 x:hi y:ho")))
	do(s, lay("n/1.1", "ha"))
	if got := holdCheck(t, "ahead", s, x.State().Held); !slices.Equal(got, wrongs("staged n/1.1")) {
		t.Errorf("P21.1: Check = %v", got)
	}
	x = samples.Must(exec.Open(s))
	if got := holdCheck(t, "behind", s, x.State().Held); !slices.Equal(got, wrongs("sum y aa 1")) {
		t.Errorf("P21.5: behind an Open Check = %v", got)
	}
}

// pool are the packages of which mixed works are made.
var pool = []string{"aa 1 x:hi y:ho", "aa 2 x:hi2 z:", "aa 3 depends=bb x:3 y:3 z:3", "bb 1 q:q", "bb 2 q:q2 w: v:v", "bb 2.0 depends=cc", "cc 1 depends=aa|bb b/c:bc", "cc 2 conflicts=bb b/c:bc b:b", "dd 1 auto d:dd e:ee f:", "dd 2 y:y"}

// mixedWork tells a work of packages of the pool, which may or may not be.
func mixedWork(r *rand.Rand, held []api.Held) api.Work {
	var parts []string
	in := map[string]string{}
	for range r.IntN(3) {
		text := pool[r.IntN(len(pool))]
		in[text[:2]] = text
	}
	var out []string
	for _, h := range held {
		if in[h.Name] != "" || r.IntN(8) == 0 {
			out = append(out, h.Name)
		} else if r.IntN(6) == 0 {
			parts = append(parts, "mark "+h.Name)
		}
	}
	parts = append(parts[:min(len(parts), 1)], "out "+strings.Join(out, " "))
	for _, name := range slices.Sorted(maps.Keys(in)) {
		parts = append(parts, "in "+in[name])
	}
	return samples.Work(strings.Join(parts, "; "))
}

// life is a long mixed way of a store, over which an Exec is.
type life struct {
	t        *testing.T
	r        *rand.Rand
	s        *store.Store
	x        *exec.Exec
	archives []api.Blob
	known    []api.Wrong     // what Check has told, behind the last thing that was done
	touched  map[string]bool // what was laid or dropped by hand since the last Sync
	counts   map[string]int
}

// look holds what Check tells against the oracle, and, if something else than a hand was at work, that it is no more than was known.
func (l *life) look(what string, byHand bool) {
	l.t.Helper()
	got := holdCheck(l.t, what, l.s, l.x.State().Held)
	for _, w := range got {
		name := w.Path
		if w.Kind <= api.WrongStray {
			name = "t/" + name
		}
		if !byHand && !slices.Contains(l.known, w) && !l.touched[name] {
			l.t.Fatalf("P21.5: %s: Check tells %v, which was not told ahead: %v", what, w, l.known)
		}
	}
	l.known = got
	l.counts[fmt.Sprint("wrong ", min(len(got), 5))]++
}

// touch lays or drops a file by hand. (Names that the last commit staged are left alone: an Open would take what lies there for its own.)
func (l *life) touch() {
	names := slices.Sorted(maps.Keys(samples.Seen(l.s)))
	names = append(names, "t/x", "t/z", "t/stray", "t/b//c", "n/odd", "n/99999.0", "d/status.new", "d/other")
	name := names[l.r.IntN(len(names))]
	if name == "d/status" || name == "d/journal" {
		return
	}
	if l.r.IntN(3) > 0 {
		l.s.Write(name, []byte([]string{"", "hi", "ha", "longer"}[l.r.IntN(4)]))
	} else {
		l.s.Remove(name)
	}
	l.touched[name] = true
	if l.r.IntN(2) == 0 {
		l.s.Sync()
	}
}

// run runs a work, or a mending.
func (l *life) run(what string) {
	l.t.Helper()
	held := l.x.State().Held
	w := mixedWork(l.r, held)
	if l.r.IntN(3) == 0 {
		w, _ = holdPlan(l.t, what, held, l.known, l.archives[l.r.IntN(3):])
	}
	e := l.x.Run(w)
	l.counts[fmt.Sprint("Run ", int(e))]++
	if e != api.ErrStoDead {
		l.look(what, false)
	}
}

// open lets crashes come till an Open answers OK.
func (l *life) open(what string) {
	l.t.Helper()
	for {
		kept := make([]int, l.s.Pending())
		for i := range kept {
			kept[i] = []int{0, 1, 1, 2, 3}[l.r.IntN(5)]
		}
		l.s.Crash(api.Choice{Kept: kept})
		l.s.Fuse(l.r.IntN(10) - 4)
		x, e := exec.Open(l.s)
		l.counts[fmt.Sprint("Open ", int(e))]++
		l.s.Fuse(-1)
		if e == api.OK {
			l.x = x
			break
		}
	}
	l.look(what, false)
	if len(behindOpen(l.known)) < len(l.known) {
		l.t.Fatalf("P21.5: %s: behind an Open Check = %v", what, l.known)
	}
}

// step does one thing.
func (l *life) step(i int) {
	l.t.Helper()
	what := fmt.Sprint("the step ", i)
	if l.r.IntN(3) == 0 {
		l.s.Fuse(l.r.IntN(16))
	}
	l.s.SetCapacity(l.s.Used() + []int{room, room, api.Reserve + l.r.IntN(300), l.r.IntN(300)}[l.r.IntN(4)])
	switch l.r.IntN(8) {
	case 0:
		l.touch()
	case 1:
		l.open(what)
	case 2:
		l.x.Checkpoint()
	default:
		l.run(what)
	}
	if l.s.Dead() {
		l.open(what)
	}
	l.s.Fuse(-1)
	l.look(what, true)
	if l.s.Pending() == 0 {
		clear(l.touched)
	}
}

// P21.5: long mixed ways of works, mendings, checkpoints, hands in the store, want of room, crashes and Opens.
func TestMixedLife(t *testing.T) {
	t.Parallel()
	_, archives := samples.AllMade("aa 2 x:hi2 z:; bb 1 q:q; cc 1 depends=aa|bb b/c:bc; dd 1 d:dd e:ee f:")
	for seed := range 4 {
		t.Run(fmt.Sprint(seed), func(t *testing.T) {
			t.Parallel()
			s := samples.Must(store.New(room))
			l := &life{t: t, r: rand.New(rand.NewPCG(21, uint64(seed))), s: s, x: samples.Must(exec.Open(s)), archives: archives, touched: map[string]bool{}, counts: map[string]int{}}
			for i := range 3000 {
				l.step(i)
			}
			for what, least := range map[string]int{"Run 0": 50, "Run 143": 20, "Run 180": 50, "Run 182": 20, "Open 0": 50, "Open 143": 20, "wrong 0": 50, "wrong 5": 50} {
				if l.counts[what] < least {
					t.Errorf("a mixed life has %q %d times: %v", what, l.counts[what], l.counts)
				}
			}
		})
	}
}

// mixedHeld tells installed packages: as often as not they are a state.
func mixedHeld(r *rand.Rand) []api.Held {
	var parts []string
	for _, name := range []string{"aa", "bb", "cc", "dd"} {
		if r.IntN(3) == 0 {
			continue
		}
		words := []string{name, fmt.Sprint(1 + r.IntN(2))}
		for _, path := range []string{"a", "a/b", "b", "c", "d", "e", "f", "g"} {
			if r.IntN(7) == 0 {
				words = append(words, path+":"+strings.Repeat("x", r.IntN(3)))
			}
		}
		if r.IntN(9) == 0 {
			words = append(words, []string{"depends=aa", "conflicts=bb", "pre=cc"}[r.IntN(3)])
		}
		parts = append(parts, strings.Join(words, " "))
	}
	if len(parts) > 1 && r.IntN(12) == 0 {
		parts[0], parts[1] = parts[1], parts[0]
	}
	return samples.AllHeld(strings.Join(parts, "; "))
}

// P21.1 to P21.3: mixed states over mixed stores, with mixed archives: as the oracle has it.
func TestMixed(t *testing.T) {
	t.Parallel()
	r := rand.New(rand.NewPCG(21, 99))
	counts := map[string]int{}
	for i := range 4000 {
		held := mixedHeld(r)
		var archives []api.Blob
		for j, h := range held {
			var blobs []api.Blob
			for _, f := range h.Files {
				blobs = append(blobs, api.Blob{Name: f.Path, Data: []byte(strings.Repeat("x", f.Size))})
			}
			text := fmt.Sprintf("%s %s", h.Name, h.Version)
			for _, b := range blobs {
				text += fmt.Sprintf(" %s:%s", b.Name, b.Data)
			}
			m, a := samples.Made(text)
			m.Depends, m.PreDepends, m.Conflicts = h.Depends, h.PreDepends, h.Conflicts // of those that have some it is not the archive
			held[j] = m
			if r.IntN(5) > 0 {
				archives = append(archives, a)
			}
		}
		r.Shuffle(len(archives), func(a, b int) { archives[a], archives[b] = archives[b], archives[a] })
		files := map[string]string{}
		for _, name := range []string{"t/a", "t/a/b", "t/b", "t/c", "t/d", "t/e", "t/f", "t/g", "t/z", "n/1.0", "n/x", "d/status", "d/journal", "d/status.new", "x"} {
			if r.IntN(3) > 0 {
				files[name] = strings.Repeat([]string{"x", "y"}[r.IntN(8)/7], r.IntN(3))
			}
		}
		s := samples.Disk(files, room)
		what := fmt.Sprint("the scene ", i)
		wrong := holdCheck(t, what, s, held)
		for range r.IntN(4) {
			wrong = append(wrong, api.Wrong{Kind: r.IntN(9) - 1, Path: []string{"a", "b", "g", "z", ""}[r.IntN(5)]})
		}
		r.Shuffle(len(wrong), func(a, b int) { wrong[a], wrong[b] = wrong[b], wrong[a] })
		w, left := holdPlan(t, what, held, wrong, archives)
		counts[fmt.Sprint("state ", isState(held))]++
		counts[fmt.Sprint("mends ", min(len(w.Mend), 3))]++
		counts[fmt.Sprint("left ", min(len(left), 3))]++
		for _, path := range []string{"a", "a/b", "g", "z"} {
			k, ok := audit.Owner(held, path)
			at := slices.IndexFunc(held, func(h api.Held) bool {
				return slices.ContainsFunc(h.Files, func(f api.File) bool { return f.Path == path })
			})
			if ok != (at >= 0) || ok && k != (api.Key{Name: held[at].Name, Version: held[at].Version}) {
				t.Fatalf("P21.3: %s: Owner of %s = %v, %v", what, path, k, ok)
			}
		}
	}
	for _, what := range []string{"state true", "state false", "mends 0", "mends 1", "mends 3", "left 0", "left 3"} {
		if counts[what] < 100 {
			t.Errorf("mixed scenes are %v", counts)
		}
	}
}
