package samples_test

import (
	"reflect"
	"testing"

	"larder/api"
	"larder/control"
	"larder/samples"
)

func TestRoomyPackages(t *testing.T) {
	full := samples.Full("aa", "1")
	list := samples.RoomyPackages([]api.Package{full})
	if len(list) != 1 || cap(list) != 3 || list[:2][1].Name != "beyond" || !control.Same(list[0], full) || cap(list[0].Provides) != 4 {
		t.Errorf("RoomyPackages = %+v", list)
	}
	extent := samples.ExtentOfPackages(list)
	if len(extent) != 3 || len(extent[0].Provides) != 4 || extent[2].Name != "beyond" {
		t.Errorf("ExtentOfPackages = %+v", extent)
	}
	clause := list[0].Depends[0]
	samples.SpoilPackages(list)
	if clause[0].Name != "spoiled" || list[0].Name != "spoiled" || list[:3][2].Name != "spoiled" {
		t.Errorf("SpoilPackages: %+v, %+v", clause, list)
	}
	if !control.Same(full, samples.Full("aa", "1")) || reflect.DeepEqual(extent, samples.ExtentOfPackages(list)) {
		t.Error("copies share memory")
	}
}

func TestRoomyHeld(t *testing.T) {
	full := samples.Full("aa", "1")
	list := samples.RoomyHeld([]api.Held{{Package: full, Mark: api.MarkAuto}})
	if len(list) != 1 || cap(list) != 3 || list[:2][1].Name != "beyond" || !control.Same(list[0].Package, full) || list[0].Mark != api.MarkAuto || cap(list[0].Provides) != 4 {
		t.Errorf("RoomyHeld = %+v", list)
	}
	extent := samples.ExtentOfHeld(list)
	if len(extent) != 3 || len(extent[0].Provides) != 4 || extent[0].Mark != api.MarkAuto || extent[2].Name != "beyond" {
		t.Errorf("ExtentOfHeld = %+v", extent)
	}
	clause := list[0].Depends[0]
	samples.SpoilHeld(list)
	if clause[0].Name != "spoiled" || list[0].Name != "spoiled" || list[:3][2].Mark != 7 {
		t.Errorf("SpoilHeld: %+v, %+v", clause, list)
	}
	if !control.Same(full, samples.Full("aa", "1")) || reflect.DeepEqual(extent, samples.ExtentOfHeld(list)) {
		t.Error("copies share memory")
	}
}
