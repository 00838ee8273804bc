package samples_test

import (
	"reflect"
	"testing"

	"larder/api"
	"larder/control"
	"larder/relation"
	"larder/samples"
)

func TestPackages(t *testing.T) {
	full := samples.Full("aa", "1")
	if control.Check(full) != api.OK || control.Key(full) != (api.Key{Name: "aa", Version: "1"}) {
		t.Errorf("Full = %+v", full)
	}
	roomy := samples.RoomyPackage(full)
	if !control.Same(roomy, full) || cap(roomy.Depends) != 4 || cap(roomy.Depends[1]) != 3 || roomy.Provides[:3][2] != "beyond" {
		t.Errorf("RoomyPackage = %+v", roomy)
	}
	extent := samples.Extent(roomy)
	if len(extent.Depends) != 4 || len(extent.PreDepends[0]) != 4 || len(extent.Conflicts) != 4 || len(extent.Provides) != 4 || len(extent.Files) != 4 {
		t.Errorf("Extent = %+v", extent)
	}
	depends, clause := roomy.Depends, roomy.Depends[0]
	samples.Spoil(roomy)
	if depends[:4][3][0].Name != "spoiled" || clause[:4][3].Name != "spoiled" || roomy.Files[:4][2].Path != "spoiled" || roomy.Conflicts[0].Name != "spoiled" {
		t.Errorf("Spoil: %+v", samples.Extent(roomy))
	}
	if !control.Same(full, samples.Full("aa", "1")) || reflect.DeepEqual(extent, samples.Extent(roomy)) {
		t.Error("copies share memory")
	}
}

func TestLongDepends(t *testing.T) {
	for _, size := range []int{1 << 20, api.MaxInput - 1, api.MaxInput} {
		clauses := samples.LongDepends(size)
		if text, e := relation.PrintField(clauses); len(text) != size || e != api.OK {
			t.Errorf("LongDepends(%d) prints to %d bytes, %d", size, len(text), e)
		}
		text := samples.Dense(clauses)
		if back, e := relation.ParseField(text); len(text) >= size || e != api.OK || !reflect.DeepEqual(back, clauses) {
			t.Errorf("Dense of %d bytes has %d, %d", size, len(text), e)
		}
	}
	if text, e := relation.PrintField(samples.LongDepends(api.MaxInput + 1)); text != "" || e != api.ErrLong {
		t.Errorf("LongDepends of more than MaxInput prints to %d bytes, %d", len(text), e)
	}
}
