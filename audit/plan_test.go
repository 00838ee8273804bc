package audit_test

import (
	"crypto/sha256"
	"math"
	"slices"
	"strings"
	"testing"

	"larder/api"
	"larder/archive"
	"larder/audit"
	"larder/samples"
)

// scene is a state with the archives of its packages, by the packages' names.
type scene struct {
	held     []api.Held
	archives map[string]api.Blob
}

// sceneOf reads packages as allMade does.
func sceneOf(text string) scene {
	held, archives := samples.AllMade(text)
	s := scene{held, map[string]api.Blob{}}
	for i, h := range held {
		s.archives[h.Name] = archives[i]
	}
	return s
}

// pick tells archives as `aa bb`: the packages'; `aa!` is one that has aa's name, and one byte more; `aa~` one that has its size, and another byte at its end; `aa-` one without bytes; `aa>bb` has aa's name and bb's bytes.
func (s scene) pick(text string) []api.Blob {
	var list []api.Blob
	for _, word := range strings.Fields(text) {
		a := s.archives[word[:2]]
		a.Data = slices.Clone(a.Data)
		switch {
		case strings.HasSuffix(word, "!"):
			a.Data = append(a.Data, 0)
		case strings.HasSuffix(word, "~"):
			a.Data[len(a.Data)-1]++
		case strings.HasSuffix(word, "-"):
			a.Data = nil
		case len(word) > 2:
			a.Data = s.archives[word[3:]].Data
		}
		list = append(list, a)
	}
	return list
}

// P21.2: what a plan mends, and what it leaves.
func TestPlan(t *testing.T) {
	t.Parallel()
	s := sceneOf("aa 1 x:hi y:ho; bb 2 depends=aa q:q w:; cc 1; dd 1 auto pre=aa b/c:bc b0:b0 z:zz")
	for _, c := range []struct{ wrong, archives, mend, left string }{
		{"", "", "", ""},
		{"", "aa bb cc dd", "", ""},
		// each kind
		{"missing x aa 1", "aa", "x:hi", ""},
		{"size x aa 1", "aa", "x:hi", ""},
		{"sum x aa 1", "aa", "x:hi", ""},
		{"stray x aa 1", "aa", "", "stray x aa 1"},
		{"staged x aa 1", "aa", "", "staged x aa 1"},
		{"other x aa 1", "aa", "", "other x aa 1"},
		{"odd x aa 1", "aa", "", "odd x aa 1"},
		{"stray z; staged n/9.0; other d/status.new", "aa dd", "", "stray z; staged n/9.0; other d/status.new"},
		{"sum x aa 1; missing y aa 1; size q bb 2; stray b; staged n/9.0; other d/other", "aa bb dd", "q:q x:hi y:ho", "stray b; staged n/9.0; other d/other"},
		// one path several times
		{"missing x aa 1; missing x aa 1", "aa", "x:hi", ""},
		{"missing x aa 1; size x aa 1; sum x aa 1; missing x aa 1", "aa", "x:hi", ""},
		{"stray x; sum x aa 1; odd x; missing x aa 1; other x", "aa", "x:hi", "stray x; odd x; other x"},
		{"missing x; missing x", "bb", "", "missing x; missing x"},
		{"stray z; stray z", "dd", "", "stray z; stray z"},
		// by the path alone
		{"missing x", "aa", "x:hi", ""},
		{"missing x bb 2", "aa bb", "x:hi", ""},
		{"missing x bb 2", "bb", "", "missing x bb 2"},
		{"missing x bb 2", "aa", "x:hi", ""},
		{"missing x aa 2; size y zz 9; sum q aa 1", "aa bb", "q:q x:hi y:ho", ""},
		{"missing x aa 1; missing x bb 2", "aa", "x:hi", ""},
		// what the state has not
		{"missing a aa 1", "aa", "", "missing a aa 1"},
		{"size t/x aa 1", "aa", "", "size t/x aa 1"},
		{"sum - aa 1", "aa", "", "sum - aa 1"},
		{"missing x/y aa 1; missing b dd 1; missing n/1.0; missing d/status", "aa bb cc dd", "", "missing x/y aa 1; missing b dd 1; missing n/1.0; missing d/status"},
		{"missing a aa 1; missing x aa 1; missing zz", "aa", "x:hi", "missing a aa 1; missing zz"},
		// rising paths, what is left in its order
		{"missing y aa 1; missing x aa 1", "aa", "x:hi y:ho", ""},
		{"missing z; missing y; missing x; missing w; missing q; missing b0; missing b/c", "aa bb dd", "b/c:bc b0:b0 q:q w: x:hi y:ho z:zz", ""},
		{"missing b0; missing z; missing b/c", "dd", "b/c:bc b0:b0 z:zz", ""},
		{"missing z; other o; missing x; stray s; missing q; staged n/1.0; missing a", "aa", "x:hi", "missing z; other o; stray s; missing q; staged n/1.0; missing a"},
		{"sum q; sum x; missing w; missing y", "bb", "q:q w:", "sum x; missing y"},
		// a file without bytes
		{"size w bb 2", "bb", "w:", ""},
		// archives that are missing, or wrong, in any order
		{"missing x; missing q; missing z", "", "", "missing x; missing q; missing z"},
		{"missing x; missing q; missing z", "dd aa", "x:hi z:zz", "missing q"},
		{"missing x; missing q; missing z", "bb cc dd aa", "q:q x:hi z:zz", ""},
		{"missing x; missing y", "aa!", "", "missing x; missing y"},
		{"missing x; missing y", "aa~", "", "missing x; missing y"},
		{"missing x; missing y", "aa-", "", "missing x; missing y"},
		{"missing x; missing y", "aa>bb", "", "missing x; missing y"},
		{"missing x; missing q", "bb>aa bb aa", "x:hi", "missing q"},
		{"missing x; missing q", "aa! bb", "q:q", "missing x"},
		// of two with one name the first counts
		{"missing x", "aa aa!", "x:hi", ""},
		{"missing x", "aa! aa", "", "missing x"},
		{"missing x", "aa- aa", "", "missing x"},
		{"missing x", "aa~ aa aa", "", "missing x"},
		{"missing x", "bb aa aa-", "x:hi", ""},
		{"missing x; missing q", "bb! aa aa~ bb", "x:hi", "missing q"},
		// those that nothing wants
		{"missing x", "bb! dd- aa cc~", "x:hi", ""},
		{"stray x", "aa!", "", "stray x"},
	} {
		what := "wrong " + c.wrong + ", archives " + c.archives
		w, left := holdPlan(t, what, s.held, wrongs(c.wrong), s.pick(c.archives))
		if !sameWork(w, api.Work{Mend: samples.Blobs(c.mend)}) || !slices.Equal(left, wrongs(c.left)) {
			t.Errorf("P21.2: %s: Plan = %s, %v, want %s, %v", what, told(w), left, c.mend, wrongs(c.left))
		}
	}
}

// P21.2: kinds that are none are left, whatever numbers they are.
func TestPlanOfNoKind(t *testing.T) {
	t.Parallel()
	s := sceneOf("aa 1 x:hi")
	var wrong []api.Wrong
	for _, kind := range []int{0, 7, -1, -2, math.MaxInt, math.MinInt, 1 << 32, 1<<32 + 1, 257, 1<<16 + 2} {
		wrong = append(wrong, api.Wrong{Kind: kind, Path: "x", Who: api.Key{Name: "aa", Version: "1"}})
	}
	if w, left := holdPlan(t, "no kinds", s.held, wrong, s.pick("aa")); len(w.Mend) > 0 || !slices.Equal(left, wrong) {
		t.Errorf("P21.2: Plan = %s, %v", told(w), left)
	}
}

// P21.2: what makes an archive the package's: all that archive.Check asks.
func TestPlanOfOtherArchives(t *testing.T) {
	t.Parallel()
	for _, c := range []struct {
		what   string
		change func(h *api.Held, a *api.Blob)
		is     bool
	}{
		{"the package's", func(h *api.Held, a *api.Blob) {}, true},
		{"another mark", func(h *api.Held, a *api.Blob) { h.Mark = 7 }, true},
		{"another name of the archive", func(h *api.Held, a *api.Blob) { h.Archive, a.Name = "other", "other" }, true},
		{"the name of the state's alone", func(h *api.Held, a *api.Blob) { h.Archive = "other" }, false},
		{"the name of what is handed in alone", func(h *api.Held, a *api.Blob) { a.Name = "other" }, false},
		{"no name of either", func(h *api.Held, a *api.Blob) { h.Archive, a.Name = "", "" }, false},
		{"no archive", func(h *api.Held, a *api.Blob) { h.Archive, h.Size, h.Sum = "", 0, [32]byte{} }, false},
		{"no archive, and nothing handed in under no name", func(h *api.Held, a *api.Blob) { h.Archive, h.Size, h.Sum, *a = "", 0, [32]byte{}, api.Blob{} }, false},
		{"a name that is no path", func(h *api.Held, a *api.Blob) { h.Archive, a.Name = "a b", "a b" }, false},
		{"another size", func(h *api.Held, a *api.Blob) { h.Size++ }, false},
		{"another sum", func(h *api.Held, a *api.Blob) { h.Sum[0]++ }, false},
		{"another version", func(h *api.Held, a *api.Blob) { h.Version = "2" }, false},
		{"another summary", func(h *api.Held, a *api.Blob) { h.Summary = "other" }, false},
		{"another Depends", func(h *api.Held, a *api.Blob) { h.Depends = []api.Clause{{{Name: "aa"}}} }, false},
		{"essential", func(h *api.Held, a *api.Blob) { h.Essential = true }, false},
		{"another file's sum", func(h *api.Held, a *api.Blob) { h.Files[1] = samples.File("y", "hx") }, false},
		{"a file more", func(h *api.Held, a *api.Blob) { h.Files = append(h.Files, samples.File("z", "")) }, false},
		{"a file less", func(h *api.Held, a *api.Blob) { h.Files = h.Files[:1] }, false},
		{"files that fall", func(h *api.Held, a *api.Blob) { slices.Reverse(h.Files) }, false},
		{"a version that may not be", func(h *api.Held, a *api.Blob) { h.Version = "" }, false},
		{"a name that may not be", func(h *api.Held, a *api.Blob) { h.Name = "A" }, false},
		{"not an archive", func(h *api.Held, a *api.Blob) {
			a.Data = []byte("odd")
			h.Size, h.Sum = 3, sha256.Sum256(a.Data)
		}, false},
		{"a whole one with a byte behind it", func(h *api.Held, a *api.Blob) {
			a.Data = append(a.Data, 0)
			h.Size, h.Sum = len(a.Data), sha256.Sum256(a.Data)
		}, false},
		{"another package's", func(h *api.Held, a *api.Blob) {
			p := samples.Held("bb 1 x:hi y:ho").Package
			a.Data = samples.Must(archive.Build(p, samples.Blobs("x:hi y:ho")))
			h.Size, h.Sum = len(a.Data), sha256.Sum256(a.Data)
		}, false},
	} {
		h, a := samples.Made("aa 1 x:hi y:ho")
		c.change(&h, &a)
		wrong := wrongs("sum x aa 1; stray s")
		w, left := holdPlan(t, c.what, []api.Held{h}, wrong, []api.Blob{a})
		mend, rest := "x:hi", wrong[1:]
		if !c.is {
			mend, rest = "", wrong
		}
		if !sameWork(w, api.Work{Mend: samples.Blobs(mend)}) || !slices.Equal(left, rest) {
			t.Errorf("P21.2: %s: Plan = %s, %v", c.what, told(w), left)
		}
	}
}

// P21.2: two packages of which the archives have one name: the first that has it is looked at for both.
func TestPlanOfOneName(t *testing.T) {
	t.Parallel()
	held, archives := samples.AllMade("aa 1 x:hi; bb 1 y:ho")
	for i := range held {
		held[i].Archive, archives[i].Name = "one", "one"
	}
	wrong := wrongs("missing y bb 1; missing x aa 1")
	for _, c := range []struct {
		archives []api.Blob
		mend     string
		left     []api.Wrong
	}{
		{archives, "x:hi", wrong[:1]},
		{[]api.Blob{archives[1], archives[0]}, "y:ho", wrong[1:]},
		{archives[1:], "y:ho", wrong[1:]},
	} {
		w, left := holdPlan(t, "one name", held, wrong, c.archives)
		if !sameWork(w, api.Work{Mend: samples.Blobs(c.mend)}) || !slices.Equal(left, c.left) {
			t.Errorf("P21.2: Plan = %s, %v, want %s", told(w), left, c.mend)
		}
	}
}

// P21.2: all lists of few wrong files with all lists of few archives: as the oracle has it.
func TestSmallPlans(t *testing.T) {
	t.Parallel()
	s := sceneOf("aa 1 x:hi y:; bb 2 q:q")
	var counts [3]int
	for _, names := range samples.Lists([]string{"aa", "bb", "aa!", "bb~", "aa>bb"}, 3) {
		archives := s.pick(strings.Join(names, " "))
		for _, list := range samples.Lists([]string{"missing x aa 1", "sum x", "stray x", "size y bb 2", "missing q bb 2", "odd q", "missing zz aa 1"}, 2) {
			w, left := holdPlan(t, told(names, list), s.held, wrongs(strings.Join(list, "; ")), archives)
			counts[min(len(w.Mend), 1)]++
			counts[2] += len(left)
		}
	}
	if counts[0] < 1000 || counts[1] < 1000 || counts[2] < 1000 {
		t.Errorf("P21.2: plans are %v", counts)
	}
}

// P21.2: what Plan tells of what is left goes round: it is left again, and a plan of it is empty.
func TestPlanAgain(t *testing.T) {
	t.Parallel()
	s := sceneOf("aa 1 x:hi y:ho; bb 2 q:q w:")
	wrong := wrongs("sum x aa 1; missing y aa 1; size q bb 2; missing w bb 2; stray b; staged n/9.0; other d/other; odd x")
	for _, names := range []string{"", "aa", "bb", "aa bb", "bb aa!"} {
		_, left := holdPlan(t, names, s.held, wrong, s.pick(names))
		w, again, e := audit.Plan(s.held, left, s.pick(names))
		if e != api.OK || !sameWork(w, api.Work{}) || !slices.Equal(again, left) {
			t.Errorf("P21.2: archives %s: Plan of what is left = %s, %v, %d", names, told(w), again, e)
		}
	}
}
