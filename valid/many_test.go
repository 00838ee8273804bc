package valid_test

import (
	"slices"
	"strconv"
	"testing"

	"larder/api"
	"larder/samples"
	"larder/valid"
)

// many makes so many packages, each of its number.
func many(n int, words func(number int) string) []api.Package {
	s := make([]api.Package, n)
	for i := range s {
		s[i] = samples.Package(words(i))
	}
	return s
}

// link tells the package of a chain that leans on the one of the next number.
func link(number int) string {
	return "p" + strconv.Itoa(number) + " 1 depends=p" + strconv.Itoa(number+1)
}

// P11.5: a chain of as many packages as a universe has falls whole, link by link, whichever end stands first.
func TestLongChain(t *testing.T) {
	s := many(api.MaxUniverse, link)
	for range 2 {
		if got := valid.Closed(s); len(got) > 0 {
			t.Errorf("P11.5: %d places are closed", len(got))
		}
		s = append(s, samples.Package("p"+strconv.Itoa(api.MaxUniverse)+" 1"))
		if got := valid.Closed(s); len(got) != len(s) || got[0] != 0 || got[len(got)-1] != len(s)-1 {
			t.Errorf("P11.5: %d places are closed, of %d", len(got), len(s))
		}
		s = s[:len(s)-1]
		slices.Reverse(s)
	}
}

// P11.1 to P11.6: as many packages as a universe has, all of which provide and need one name.
func TestManyAlike(t *testing.T) {
	s := many(api.MaxUniverse, func(number int) string {
		return "p" + strconv.Itoa(number) + " 1 provides=xx depends=xx pre=xx files=f" + strconv.Itoa(number)
	})
	if got := valid.Faults(s); len(got) > 0 || !valid.Valid(s) || len(valid.Closed(s)) != len(s) {
		t.Errorf("P11.1, P11.2, P11.5: %d faults", len(got))
	}
	var out []api.Key
	for _, p := range s[1:] {
		out = append(out, key(p))
	}
	if got := valid.Breaks(s, out); !slices.Equal(got, []api.Key{key(s[0])}) {
		t.Errorf("P11.6: %v", got)
	}
	wishes := make([]api.Wish, 0, 4*len(s))
	for range s {
		wishes = append(wishes, samples.Wishes("install xx; remove xx")...)
	}
	wishes = append(wishes, samples.Wish("install yy"))
	if got := valid.Unmet(s, wishes); !slices.Equal(got, []int{len(wishes) - 1}) {
		t.Errorf("P11.4: %d wishes", len(got))
	}
}

// P11.1: the files of packages with as many as one may have.
func TestManyFiles(t *testing.T) {
	s := make([]api.Package, 3)
	for i := range s {
		s[i] = api.Package{Name: "p" + strconv.Itoa(i), Version: "1"}
		for f := range api.MaxFiles {
			s[i].Files = append(s[i].Files, api.File{Path: strconv.Itoa(max(1, i)) + "/" + strconv.Itoa(f)})
		}
	}
	got := valid.Faults(s[1:])
	if len(got) > 0 {
		t.Errorf("P11.1: %d faults", len(got))
	}
	got = valid.Faults(s)
	if len(got) != api.MaxFiles || got[0] != (api.Fault{Kind: api.FaultPath, Who: key(s[1]), Other: key(s[0])}) || got[api.MaxFiles-1].Index != api.MaxFiles-1 {
		t.Errorf("P11.1: %d faults", len(got))
	}
}
