package archive_test

import (
	"bytes"
	"reflect"
	"testing"

	"larder/api"
	"larder/archive"
	"larder/control"
	"larder/samples"
)

// roomyFiles tells a copy of files with room beyond all ends.
func roomyFiles(files []api.Blob) []api.Blob {
	copied := make([]api.Blob, len(files))
	for i, f := range files {
		copied[i] = api.Blob{Name: f.Name, Data: samples.Roomy(f.Data, 0xee)}
	}
	return samples.Roomy(copied, api.Blob{Name: "beyond"})
}

// extentOfFiles tells a copy of all that files have room for.
func extentOfFiles(files []api.Blob) []api.Blob {
	copied := append([]api.Blob{}, files[:cap(files)]...)
	for i, f := range copied {
		copied[i].Data = append([]byte{}, f.Data[:cap(f.Data)]...)
	}
	return copied
}

// spoilBytes writes over all that a text has room for.
func spoilBytes(data []byte) {
	for i := range data[:cap(data)] {
		data[:cap(data)][i] = 0x5a
	}
}

func spoilFiles(files []api.Blob) {
	for i, f := range files {
		spoilBytes(f.Data)
		files[i] = api.Blob{Name: "spoiled"}
	}
	_ = append(files, api.Blob{Name: "spoiled"})
}

// Memory: nothing writes into what it was given, nor into its room beyond the end; what is answered shares nothing with it.
func TestArguments(t *testing.T) {
	p, files := whole()
	roomyPackage, given := samples.RoomyPackage(p), roomyFiles(files)
	packageBefore, filesBefore := samples.Extent(roomyPackage), extentOfFiles(given)
	tar, _ := archive.Tar(given)
	list, _ := archive.Manifest(given)
	data, e := archive.Build(roomyPackage, given)
	if e != api.OK || !reflect.DeepEqual(samples.Extent(roomyPackage), packageBefore) || !reflect.DeepEqual(extentOfFiles(given), filesBefore) {
		t.Fatalf("Memory: Tar, Manifest or Build write into what they were given (%d)", e)
	}
	spoilFiles(given)
	samples.Spoil(roomyPackage)
	if !bytes.Equal(tar, tarOf(files)) || !reflect.DeepEqual(list, of(files)) {
		t.Error("Memory: what is written into files changes their ustar or manifest")
	}
	whole, _ := archive.Build(p, files)
	if !bytes.Equal(data, whole) {
		t.Error("Memory: what is written into a package or files changes their archive")
	}
	spoilBytes(data)
	if again, _ := archive.Build(p, files); !bytes.Equal(again, whole) {
		t.Error("Memory: what is written into an archive changes another")
	}
}

// Memory: likewise of what is read.
func TestTexts(t *testing.T) {
	p, files := whole()
	made, _ := archive.Build(p, files)
	data := samples.Roomy(made, 0xee)
	tar := samples.Roomy(tarOf(files), 0xee)
	known := samples.RoomyPackage(within(p, made))
	before, tarBefore, knownBefore := bytes.Clone(data[:cap(data)]), bytes.Clone(tar[:cap(tar)]), samples.Extent(known)
	untarred, e := archive.Untar(tar)
	q, read, e2 := archive.Read(data)
	checked, e3 := archive.Check(known, data)
	if e != api.OK || e2 != api.OK || e3 != api.OK {
		t.Fatalf("P7.2, P7.5, P7.6: %d, %d, %d", e, e2, e3)
	}
	if !bytes.Equal(data[:cap(data)], before) || !bytes.Equal(tar[:cap(tar)], tarBefore) || !reflect.DeepEqual(samples.Extent(known), knownBefore) {
		t.Fatal("Memory: Untar, Read or Check write into what they were given")
	}
	spoilBytes(data)
	spoilBytes(tar)
	samples.Spoil(known)
	if !sameFiles(untarred, files) || !sameFiles(read, files) || !sameFiles(checked, files) || !control.Same(q, p) {
		t.Error("Memory: what is written into a text changes what was read")
	}
	spoilFiles(read)
	if !sameFiles(checked, files) || !control.Same(q, p) {
		t.Error("Memory: what is written into files that were read changes others")
	}
}

// Memory: no file that is answered runs into another's room.
func TestFilesApart(t *testing.T) {
	_, files := whole()
	found, _ := archive.Untar(tarOf(files))
	for i := range found {
		spoilBytes(found[i].Data)
		found[i].Data = append(found[i].Data, 0x5a)
		for j := i + 1; j < len(found); j++ {
			if !bytes.Equal(found[j].Data, files[j].Data) {
				t.Errorf("Memory: the file %d runs into the file %d", i, j)
			}
		}
	}
}
