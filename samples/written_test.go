package samples_test

import (
	"crypto/sha256"
	"reflect"
	"testing"

	"larder/api"
	"larder/samples"
)

func TestWrittenPackages(t *testing.T) {
	want := []api.Package{
		{
			Name: "aa", Version: "1", Essential: true,
			Depends:    []api.Clause{{{Name: "bb"}, {Name: "cc", Op: api.OpAtLeast, Version: "2"}}, {{Name: "dd"}}},
			PreDepends: []api.Clause{{{Name: "ee"}}},
			Conflicts:  []api.Atom{{Name: "ff"}, {Name: "gg", Op: api.OpEqual, Version: "1"}},
			Provides:   []string{"hh", "ii"},
			Files:      []api.File{{Path: "a"}, {Path: "b/c"}},
		},
		{Name: "bb", Version: "1.0"},
	}
	if got := samples.Packages("aa 1 essential depends=bb|cc(>=2) depends=dd pre=ee conflicts=ff,gg(=1) provides=hh,ii files=a,b/c; bb 1.0"); !reflect.DeepEqual(got, want) {
		t.Errorf("Packages = %+v", got)
	}
	if got := samples.Packages(""); len(got) > 0 {
		t.Errorf("Packages of nothing = %+v", got)
	}
}

func TestWrittenWishes(t *testing.T) {
	want := []api.Wish{
		{Kind: api.WishInstall, Atom: api.Atom{Name: "aa", Op: api.OpAtLeast, Version: "2"}},
		{Kind: api.WishRemove, Atom: api.Atom{Name: "bb"}},
		{Kind: api.WishUpgrade},
	}
	if got := samples.Wishes("install aa(>=2); remove bb; upgrade"); !reflect.DeepEqual(got, want) {
		t.Errorf("Wishes = %+v", got)
	}
}

func TestWrittenWork(t *testing.T) {
	hi := api.File{Path: "x", Size: 2, Sum: sha256.Sum256([]byte("hi"))}
	want := api.Work{
		Out: []string{"aa", "bb"},
		In: []api.Held{
			{Package: api.Package{Name: "cc", Version: "1", Provides: []string{"mail"}, Files: []api.File{hi, {Path: "y", Sum: sha256.Sum256(nil)}}}, Mark: api.MarkAuto},
			{Package: api.Package{Name: "dd", Version: "2"}},
		},
		Marks: []string{"ee"},
		Group: 3,
		Files: []api.Blob{{Name: "x", Data: []byte("hi")}, {Name: "y", Data: []byte{}}},
		Mend:  []api.Blob{{Name: "z", Data: []byte("a:b")}},
	}
	if got := samples.Work("out aa bb; in cc 1 x:hi auto provides=mail y:; in dd 2; mark ee; mend z:a:b odd; group 3"); !reflect.DeepEqual(got, want) {
		t.Errorf("Work = %+v", got)
	}
	if got := samples.Work(""); !reflect.DeepEqual(got, api.Work{}) {
		t.Errorf("Work of nothing = %+v", got)
	}
}

func TestWrittenHeld(t *testing.T) {
	want := []api.Held{{Package: samples.Package("bb 1 depends=aa"), Mark: api.MarkAuto}, samples.Held("aa 2 x:hi")}
	if got := samples.AllHeld("bb 1 auto depends=aa; aa 2 x:hi"); !reflect.DeepEqual(got, want) {
		t.Errorf("AllHeld = %+v", got)
	}
	if got := samples.AllHeld(""); len(got) > 0 {
		t.Errorf("AllHeld of nothing = %+v", got)
	}
}

func TestWrittenKeys(t *testing.T) {
	want := []api.Key{{Name: "bb", Version: "1:2-3"}, {Name: "aa", Version: "1=2"}, {Name: "cc"}}
	if got := samples.Keys("bb=1:2-3  aa=1=2 cc"); !reflect.DeepEqual(got, want) {
		t.Errorf("Keys = %+v", got)
	}
	if got := samples.Keys(""); len(got) > 0 {
		t.Errorf("Keys of nothing = %+v", got)
	}
}

// What no test should write is told at once.
func TestWrittenWrong(t *testing.T) {
	for text, read := range map[string]func(text string){
		"aa":              func(text string) { samples.Package(text) },
		"aa 1 odd=bb":     func(text string) { samples.Package(text) },
		"aa 1 depends=b":  func(text string) { samples.Package(text) },
		"aa 1 x:hi odd=1": func(text string) { samples.Held(text) },
		"odd aa":          func(text string) { samples.Work(text) },
	} {
		func() {
			defer func() {
				if recover() == nil {
					t.Errorf("%q is read", text)
				}
			}()
			read(text)
		}()
	}
}
