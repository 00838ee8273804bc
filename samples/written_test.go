package samples_test

import (
	"reflect"
	"testing"

	"larder/api"
	"larder/samples"
)

func TestWrittenPackages(t *testing.T) {
	want := []api.Package{
		{
			Name: "aa", Version: "1", Essential: true,
			Depends:    []api.Clause{{{Name: "bb"}, {Name: "cc", Op: api.OpAtLeast, Version: "2"}}, {{Name: "dd"}}},
			PreDepends: []api.Clause{{{Name: "ee"}}},
			Conflicts:  []api.Atom{{Name: "ff"}, {Name: "gg", Op: api.OpEqual, Version: "1"}},
			Provides:   []string{"hh", "ii"},
			Files:      []api.File{{Path: "a"}, {Path: "b/c"}},
		},
		{Name: "bb", Version: "1.0"},
	}
	if got := samples.Packages("aa 1 essential depends=bb|cc(>=2) depends=dd pre=ee conflicts=ff,gg(=1) provides=hh,ii files=a,b/c; bb 1.0"); !reflect.DeepEqual(got, want) {
		t.Errorf("Packages = %+v", got)
	}
	if got := samples.Packages(""); len(got) > 0 {
		t.Errorf("Packages of nothing = %+v", got)
	}
}

func TestWrittenWishes(t *testing.T) {
	want := []api.Wish{
		{Kind: api.WishInstall, Atom: api.Atom{Name: "aa", Op: api.OpAtLeast, Version: "2"}},
		{Kind: api.WishRemove, Atom: api.Atom{Name: "bb"}},
		{Kind: api.WishUpgrade},
	}
	if got := samples.Wishes("install aa(>=2); remove bb; upgrade"); !reflect.DeepEqual(got, want) {
		t.Errorf("Wishes = %+v", got)
	}
}

// What no test should write is told at once.
func TestWrittenWrong(t *testing.T) {
	for _, text := range []string{"aa", "aa 1 odd=bb", "aa 1 depends=b"} {
		func() {
			defer func() {
				if recover() == nil {
					t.Errorf("%q is read", text)
				}
			}()
			samples.Package(text)
		}()
	}
}
