package archive_test

import (
	"bytes"
	"reflect"
	"testing"

	"larder/api"
	"larder/archive"
	"larder/control"
	"larder/samples"
)

// Memory: nothing writes into what it was given, nor into its room beyond the end; what is answered shares nothing with it.
func TestArguments(t *testing.T) {
	p, files := whole()
	roomyPackage, given := samples.RoomyPackage(p), samples.RoomyBlobs(files)
	packageBefore, filesBefore := samples.Extent(roomyPackage), samples.ExtentOfBlobs(given)
	tar, _ := archive.Tar(given)
	list, _ := archive.Manifest(given)
	data, e := archive.Build(roomyPackage, given)
	if e != api.OK || !reflect.DeepEqual(samples.Extent(roomyPackage), packageBefore) || !reflect.DeepEqual(samples.ExtentOfBlobs(given), filesBefore) {
		t.Fatalf("Memory: Tar, Manifest or Build write into what they were given (%d)", e)
	}
	samples.SpoilBlobs(given)
	samples.Spoil(roomyPackage)
	if !bytes.Equal(tar, tarOf(files)) || !reflect.DeepEqual(list, of(files)) {
		t.Error("Memory: what is written into files changes their ustar or manifest")
	}
	whole, _ := archive.Build(p, files)
	if !bytes.Equal(data, whole) {
		t.Error("Memory: what is written into a package or files changes their archive")
	}
	samples.Fill(data, 0x5a)
	if again, _ := archive.Build(p, files); !bytes.Equal(again, whole) {
		t.Error("Memory: what is written into an archive changes another")
	}
}

// Memory: likewise of what is read.
func TestTexts(t *testing.T) {
	p, files := whole()
	made, _ := archive.Build(p, files)
	data := samples.Roomy(made, 0xee)
	tar := samples.Roomy(tarOf(files), 0xee)
	known := samples.RoomyPackage(within(p, made))
	before, tarBefore, knownBefore := bytes.Clone(data[:cap(data)]), bytes.Clone(tar[:cap(tar)]), samples.Extent(known)
	untarred, e := archive.Untar(tar)
	q, read, e2 := archive.Read(data)
	checked, e3 := archive.Check(known, data)
	if e != api.OK || e2 != api.OK || e3 != api.OK {
		t.Fatalf("P7.2, P7.5, P7.6: %d, %d, %d", e, e2, e3)
	}
	if !bytes.Equal(data[:cap(data)], before) || !bytes.Equal(tar[:cap(tar)], tarBefore) || !reflect.DeepEqual(samples.Extent(known), knownBefore) {
		t.Fatal("Memory: Untar, Read or Check write into what they were given")
	}
	samples.Fill(data, 0x5a)
	samples.Fill(tar, 0x5a)
	samples.Spoil(known)
	if !sameFiles(untarred, files) || !sameFiles(read, files) || !sameFiles(checked, files) || !control.Same(q, p) {
		t.Error("Memory: what is written into a text changes what was read")
	}
	samples.SpoilBlobs(read)
	if !sameFiles(checked, files) || !control.Same(q, p) {
		t.Error("Memory: what is written into files that were read changes others")
	}
}

// Memory: no file that is answered runs into another's room.
func TestFilesApart(t *testing.T) {
	_, files := whole()
	found, _ := archive.Untar(tarOf(files))
	for i := range found {
		samples.Fill(found[i].Data, 0x5a)
		found[i].Data = append(found[i].Data, 0x5a)
		for j := i + 1; j < len(found); j++ {
			if !bytes.Equal(found[j].Data, files[j].Data) {
				t.Errorf("Memory: the file %d runs into the file %d", i, j)
			}
		}
	}
}
