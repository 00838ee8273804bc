package samples_test

import (
	"reflect"
	"testing"

	"larder/api"
	"larder/control"
	"larder/samples"
)

func TestRoomyPackages(t *testing.T) {
	full := samples.Full("aa", "1")
	list := samples.RoomyPackages([]api.Package{full})
	if len(list) != 1 || cap(list) != 3 || list[:2][1].Name != "beyond" || !control.Same(list[0], full) || cap(list[0].Provides) != 4 {
		t.Errorf("RoomyPackages = %+v", list)
	}
	extent := samples.ExtentOfPackages(list)
	if len(extent) != 3 || len(extent[0].Provides) != 4 || extent[2].Name != "beyond" {
		t.Errorf("ExtentOfPackages = %+v", extent)
	}
	clause := list[0].Depends[0]
	samples.SpoilPackages(list)
	if clause[0].Name != "spoiled" || list[0].Name != "spoiled" || list[:3][2].Name != "spoiled" {
		t.Errorf("SpoilPackages: %+v, %+v", clause, list)
	}
	if !control.Same(full, samples.Full("aa", "1")) || reflect.DeepEqual(extent, samples.ExtentOfPackages(list)) {
		t.Error("copies share memory")
	}
}

func TestRoomyHeld(t *testing.T) {
	full := samples.Full("aa", "1")
	list := samples.RoomyHeld([]api.Held{{Package: full, Mark: api.MarkAuto}})
	if len(list) != 1 || cap(list) != 3 || list[:2][1].Name != "beyond" || !control.Same(list[0].Package, full) || list[0].Mark != api.MarkAuto || cap(list[0].Provides) != 4 {
		t.Errorf("RoomyHeld = %+v", list)
	}
	extent := samples.ExtentOfHeld(list)
	if len(extent) != 3 || len(extent[0].Provides) != 4 || extent[0].Mark != api.MarkAuto || extent[2].Name != "beyond" {
		t.Errorf("ExtentOfHeld = %+v", extent)
	}
	clause := list[0].Depends[0]
	samples.SpoilHeld(list)
	if clause[0].Name != "spoiled" || list[0].Name != "spoiled" || list[:3][2].Mark != 7 {
		t.Errorf("SpoilHeld: %+v, %+v", clause, list)
	}
	if !control.Same(full, samples.Full("aa", "1")) || reflect.DeepEqual(extent, samples.ExtentOfHeld(list)) {
		t.Error("copies share memory")
	}
}

func TestRoomyState(t *testing.T) {
	held := []api.Held{{Package: samples.Full("aa", "1"), Mark: api.MarkAuto}}
	keys := []api.Key{{Name: "aa", Version: "1"}}
	full := func() api.State {
		return api.State{Seq: 2, Group: 1, Held: held, Before: held, Past: []api.Entry{{Seq: 2, Group: 1, Out: keys, In: keys}}}
	}
	s := samples.RoomyState(full())
	if s.Seq != 2 || s.Group != 1 || len(s.Held) != 1 || len(s.Past) != 1 || !reflect.DeepEqual(s.Past[0].Out, keys) || s.Past[0].In[:2][1].Name != "beyond" || s.Before[:2][1].Mark != 7 {
		t.Errorf("RoomyState = %+v", s)
	}
	extent := samples.ExtentOfState(s)
	if len(extent.Held) != 3 || len(extent.Before) != 3 || len(extent.Past) != 3 || len(extent.Past[0].Out) != 3 || len(extent.Held[0].Provides) != 4 {
		t.Errorf("ExtentOfState = %+v", extent)
	}
	entry := s.Past[0]
	samples.SpoilState(s)
	if s.Held[:2][1].Name != "spoiled" || s.Before[0].Name != "spoiled" || s.Past[:3][2].Seq != 9 || entry.Out[0].Name != "spoiled" || entry.In[:3][2].Name != "spoiled" {
		t.Errorf("SpoilState: %+v, %+v", s, entry)
	}
	if !reflect.DeepEqual(full(), api.State{Seq: 2, Group: 1, Held: []api.Held{{Package: samples.Full("aa", "1"), Mark: api.MarkAuto}}, Before: held, Past: []api.Entry{{Seq: 2, Group: 1, Out: []api.Key{{Name: "aa", Version: "1"}}, In: keys}}}) || reflect.DeepEqual(extent, samples.ExtentOfState(s)) {
		t.Error("copies share memory")
	}
}
