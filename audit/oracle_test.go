package audit_test

import (
	"bytes"
	"cmp"
	"crypto/sha256"
	"fmt"
	"maps"
	"slices"
	"strings"
	"testing"

	"larder/api"
	"larder/archive"
	"larder/audit"
	"larder/exec"
	"larder/installed"
	"larder/samples"
	"larder/store"
	"larder/valid"
)

// room is enough for all that tests without care of it do.
const room = 1 << 20

// told tells things as text; nil and empty are one.
func told(things ...any) string { return fmt.Sprintf("%+v", things) }

// kinds are what the tests call the kinds of what is wrong; `odd` is none.
var kinds = []string{"odd", "missing", "size", "sum", "stray", "staged", "other"}

// wrongs reads what is wrong as `missing y aa 1; stray z`: the kind, the path, whose it is; `-` is no path.
func wrongs(text string) []api.Wrong {
	var list []api.Wrong
	for _, part := range samples.Parts(text) {
		words := append(strings.Fields(part), "", "")
		list = append(list, api.Wrong{Kind: slices.Index(kinds, words[0]), Path: strings.TrimPrefix(words[1], "-"), Who: api.Key{Name: words[2], Version: words[3]}})
	}
	return list
}

// isState is what held must be.
func isState(held []api.Held) bool {
	for i := range held {
		if i > 0 && held[i-1].Name >= held[i].Name {
			return false
		}
	}
	return len(valid.Faults(installed.Packages(held))) == 0
}

// state is what is wrong with a file, of which it is told whether it is there: 0 if nothing is.
func state(f api.File, data string, there bool) int {
	if !there {
		return 1
	}
	if len(data) != f.Size {
		return 2
	}
	if sha256.Sum256([]byte(data)) != f.Sum {
		return 3
	}
	return 0
}

// others is whether a name of the store is wrong by itself, and how: 0 if it is not.
func others(name string, paths []string) int {
	switch {
	case strings.HasPrefix(name, "t/") && slices.Contains(paths, name[2:]):
		return 0
	case strings.HasPrefix(name, "t/"):
		return 4
	case strings.HasPrefix(name, "n/"):
		return 5
	case name == "d/status" || name == "d/journal":
		return 0
	}
	return 6
}

// checked is P21.1.
func checked(s *store.Store, held []api.Held) ([]api.Wrong, api.Errno) {
	if s == nil {
		return nil, api.ErrArg
	}
	if s.Dead() {
		return nil, api.ErrStoDead
	}
	if !isState(held) {
		return nil, api.ErrAudState
	}
	var list []api.Wrong
	var paths []string
	seen := samples.Seen(s)
	for _, h := range held {
		files := slices.Clone(h.Files)
		slices.SortFunc(files, func(a, b api.File) int { return cmp.Compare(a.Path, b.Path) })
		for _, f := range files {
			paths = append(paths, f.Path)
			data, there := seen["t/"+f.Path]
			if kind := state(f, data, there); kind > 0 {
				list = append(list, api.Wrong{Kind: kind, Path: f.Path, Who: api.Key{Name: h.Name, Version: h.Version}})
			}
		}
	}
	for kind := 4; kind <= 6; kind++ {
		for _, name := range slices.Sorted(maps.Keys(seen)) {
			if others(name, paths) == kind && kind == 4 {
				list = append(list, api.Wrong{Kind: 4, Path: name[2:]})
			} else if others(name, paths) == kind {
				list = append(list, api.Wrong{Kind: kind, Path: name})
			}
		}
	}
	return list, api.OK
}

// contentsOf is what a path of a state has in the first archive of its package's name, if that one is the package's.
func contentsOf(held []api.Held, path string, archives []api.Blob) ([]byte, bool) {
	for _, h := range held {
		for _, f := range h.Files {
			at := slices.IndexFunc(archives, func(a api.Blob) bool { return a.Name == h.Archive })
			if f.Path != path || at < 0 {
				continue
			}
			files, _ := archive.Check(h.Package, archives[at].Data)
			for _, b := range files {
				if b.Name == path {
					return b.Data, true
				}
			}
		}
	}
	return nil, false
}

// planned is P21.2.
func planned(held []api.Held, wrong []api.Wrong, archives []api.Blob) (api.Work, []api.Wrong, api.Errno) {
	if !isState(held) {
		return api.Work{}, nil, api.ErrAudState
	}
	var w api.Work
	var left []api.Wrong
	for _, x := range wrong {
		data, is := contentsOf(held, x.Path, archives)
		if !is || x.Kind < 1 || x.Kind > 3 {
			left = append(left, x)
		} else if !slices.ContainsFunc(w.Mend, func(b api.Blob) bool { return b.Name == x.Path }) {
			w.Mend = append(w.Mend, api.Blob{Name: x.Path, Data: data})
		}
	}
	slices.SortFunc(w.Mend, func(a, b api.Blob) int { return cmp.Compare(a.Name, b.Name) })
	return w, left, api.OK
}

// holdCheck holds what Check answers against the oracle, and that it changes nothing.
func holdCheck(t *testing.T, what string, s *store.Store, held []api.Held) []api.Wrong {
	t.Helper()
	was := samples.Told(s)
	got, e := audit.Check(s, held)
	want, f := checked(s, held)
	if e != f || !slices.Equal(got, want) {
		t.Fatalf("P21.1: %s: Check = %v, %d, want %v, %d", what, got, e, want, f)
	}
	if samples.Told(s) != was {
		t.Fatalf("P21.1: %s: Check changes the store", what)
	}
	return got
}

// holdPlan holds what Plan answers against the oracle.
func holdPlan(t *testing.T, what string, held []api.Held, wrong []api.Wrong, archives []api.Blob) (api.Work, []api.Wrong) {
	t.Helper()
	w, left, e := audit.Plan(held, wrong, archives)
	want, rest, f := planned(held, wrong, archives)
	if e != f || !slices.Equal(left, rest) || !sameWork(w, want) {
		t.Fatalf("P21.2: %s: Plan = %s, %v, %d, want %s, %v, %d", what, told(w), left, e, told(want), rest, f)
	}
	return w, left
}

// sameWork tells whether two works are the same, of which the second has no more than Mend.
func sameWork(a, b api.Work) bool {
	if a.Group != 0 || len(a.Out)+len(a.In)+len(a.Marks)+len(a.Files) > 0 {
		return false
	}
	return slices.EqualFunc(a.Mend, b.Mend, func(x, y api.Blob) bool { return x.Name == y.Name && bytes.Equal(x.Data, y.Data) })
}

// install makes a store on which packages have been installed one behind the other, with its Exec and their archives.
func install(text string) (*store.Store, *exec.Exec, []api.Blob) {
	s := samples.Must(store.New(room))
	x := samples.Must(exec.Open(s))
	held, archives := samples.AllMade(text)
	for i, part := range samples.Parts(text) {
		samples.Must(0, x.Run(api.Work{In: held[i : i+1], Files: samples.Blobs(part)}))
	}
	return s, x, archives
}

// change is what somebody does to a store by hand.
type change func(s *store.Store)

func lay(name, data string) change {
	return func(s *store.Store) { s.Write(name, []byte(data)) }
}

func drop(name string) change {
	return func(s *store.Store) { s.Remove(name) }
}

// do makes changes, behind which nothing is pending.
func do(s *store.Store, changes ...change) {
	for _, c := range changes {
		c(s)
	}
	s.Sync()
}
