package installed_test

import (
	"reflect"
	"testing"

	"larder/api"
	"larder/installed"
	"larder/samples"
	"larder/valid"
)

func heldOf(text string) []api.Held {
	var held []api.Held
	for i, p := range samples.Packages(text) {
		held = append(held, api.Held{Package: p, Mark: i % 3})
	}
	return held
}

func TestKey(t *testing.T) {
	if got := installed.Key(heldOf("aa 1:2-3 provides=bb files=x")[0]); got != (api.Key{Name: "aa", Version: "1:2-3"}) {
		t.Errorf("Key = %+v", got)
	}
}

func TestPackages(t *testing.T) {
	const text = "bb 1 depends=aa files=x; aa 2 provides=mail; aa 2"
	held := heldOf(text)
	ps := installed.Packages(held)
	if !reflect.DeepEqual(ps, samples.Packages(text)) {
		t.Errorf("Packages = %+v", ps)
	}
	ps[0] = api.Package{Name: "zz"}
	if !reflect.DeepEqual(held, heldOf(text)) || len(installed.Packages(nil)) > 0 {
		t.Errorf("Packages writes into what it was given: %+v", held)
	}
}

// In which order they stand, and how they are marked, is not asked.
func TestValid(t *testing.T) {
	for _, text := range []string{"", "aa 1", "bb 1; aa 1 depends=bb", "aa 1 pre=bb conflicts=aa files=x; bb 1 files=x/y", "aa 1; aa 2", "aa 1 depends=bb", "aa 1 pre=aa", "bb 1 conflicts=aa; aa 1", "aa 1 files=x; bb 1 files=x", "aa 1 files=x,x"} {
		held := samples.RoomyHeld(heldOf(text))
		if got, want := installed.Valid(held), len(valid.Faults(samples.Packages(text))) == 0; got != want {
			t.Errorf("Valid of %q = %v", text, got)
		}
		if !reflect.DeepEqual(samples.ExtentOfHeld(held), samples.ExtentOfHeld(samples.RoomyHeld(heldOf(text)))) {
			t.Errorf("Valid writes into what it was given: %q", text)
		}
	}
}
