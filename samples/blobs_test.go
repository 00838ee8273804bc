package samples_test

import (
	"reflect"
	"testing"

	"larder/api"
	"larder/samples"
)

func TestRoomyBlobs(t *testing.T) {
	blobs := []api.Blob{{Name: "a", Data: []byte("12")}, {Name: "b"}}
	list := samples.RoomyBlobs(blobs)
	if len(list) != 2 || cap(list) != 4 || string(list[0].Data[:4]) != "12!!" || len(list[1].Data) > 0 || list[:3][2].Name != "beyond" {
		t.Errorf("RoomyBlobs = %v", list)
	}
	extent := samples.ExtentOfBlobs(list)
	if len(extent) != 4 || string(extent[0].Data) != "12!!" || string(extent[1].Data) != "!!" || string(extent[3].Data) != "beyond" {
		t.Errorf("ExtentOfBlobs = %v", extent)
	}
	first := list[0]
	samples.SpoilBlobs(list)
	if string(first.Data[:4]) != "????" || list[0].Name != "spoiled" || list[:4][3].Name != "spoiled" {
		t.Errorf("SpoilBlobs: %v, %v", first, list)
	}
	if string(blobs[0].Data) != "12" || blobs[1].Name != "b" || reflect.DeepEqual(extent, samples.ExtentOfBlobs(list)) {
		t.Error("copies share memory")
	}
}
