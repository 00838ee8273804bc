package archive_test

import (
	"bytes"
	"crypto/sha256"
	"fmt"
	"reflect"
	"strings"
	"testing"

	"larder/api"
	"larder/archive"
	"larder/control"
	"larder/samples"
)

// of tells the manifest of files, made by the library's sums.
func of(files []api.Blob) []api.File {
	var list []api.File
	for _, f := range files {
		list = append(list, api.File{Path: f.Name, Size: len(f.Data), Sum: sha256.Sum256(f.Data)})
	}
	return list
}

// lean tells a package with what is needed alone, and files.
func lean(files []api.Blob) api.Package {
	return api.Package{Name: "aa", Version: "1", Files: of(files)}
}

// whole tells a package with all that a package may have but an archive, and its files.
func whole() (api.Package, []api.Blob) {
	files := blobs("a", "", "usr/bin/x", "hi", "usr/bin/y", strings.Repeat("\x00z", 300))
	return without(full(files)), files
}

// full tells a package with all that a package may have, and files.
func full(files []api.Blob) api.Package {
	p := samples.Full("aa", "1:2-3")
	p.Files = of(files)
	return p
}

// without tells a package without Archive, Size and Sum.
func without(p api.Package) api.Package {
	p.Archive, p.Size, p.Sum = "", 0, [32]byte{}
	return p
}

// within tells a package whose archive these bytes are.
func within(p api.Package, data []byte) api.Package {
	p.Archive, p.Size, p.Sum = "pool/aa", len(data), sha256.Sum256(data)
	return p
}

// P7.3: paths, sizes and sums; files of more than MaxInput bytes in all.
func TestManifest(t *testing.T) {
	long := make([]api.Blob, 17)
	for i := range long {
		long[i] = zeros(fmt.Sprintf("f%02d", i), 1048576-i)
	}
	for _, files := range [][]api.Blob{nil, blobs("a", "x"), blobs("a", "x", "b", "", "c/d", strings.Repeat("y", 513)), blobs("A", "", "a", "", "a-b", "", "a/b", "", "b", ""), long} {
		if list, e := archive.Manifest(files); e != api.OK || !reflect.DeepEqual(append([]api.File{}, list...), append([]api.File{}, of(files)...)) {
			t.Errorf("P7.3: Manifest of %d files: %v, %d", len(files), list, e)
		}
	}
	for _, files := range [][]api.Blob{blobs("b", "", "a", ""), blobs("a", "", "a", ""), blobs("a", "", "b", "", "b", "x"), blobs("a", "", "c", "", "b", ""), blobs("a/b", "", "a-b", "")} {
		if list, e := archive.Manifest(files); e != api.ErrCtlFiles || list != nil {
			t.Errorf("P7.3: Manifest of %q: %d", files, e)
		}
	}
}

// P7.3: MaxFiles files are taken, one more is not; a single file's error comes first.
func TestManifestMany(t *testing.T) {
	files := make([]api.Blob, 4098)
	for i := range files {
		files[i] = api.Blob{Name: fmt.Sprintf("f%04d", i), Data: []byte{byte(i)}}
	}
	if list, e := archive.Manifest(files[:4096]); e != api.OK || !reflect.DeepEqual(list, of(files[:4096])) {
		t.Errorf("P7.3: 4096 files: %d, %d", len(list), e)
	}
	if list, e := archive.Manifest(files[:4097]); e != api.ErrCtlFiles || list != nil {
		t.Errorf("P7.3: 4097 files: %d", e)
	}
	files[4097].Name = "/"
	if list, e := archive.Manifest(files); e != api.ErrCtlPath || list != nil {
		t.Errorf("P7.3: 4098 files, the last with a wrong path: %d", e)
	}
	files[4097] = zeros("a", 1048577)
	if list, e := archive.Manifest(files); e != api.ErrArcSize || list != nil {
		t.Errorf("P7.3: 4098 files, the last too long: %d", e)
	}
}

// holdBuild holds Build of a package and its files against the form, and Read and Check of the bytes against the package.
func holdBuild(t *testing.T, p api.Package, files []api.Blob) {
	t.Helper()
	text, _ := control.Print(without(p))
	data, e := archive.Build(p, files)
	if e != api.OK || !bytes.Equal(data, around(string(text), files)) {
		t.Fatalf("P7.4: Build(%s): %d bytes, %d", p.Name, len(data), e)
	}
	if back, found, e := archive.Read(data); e != api.OK || !control.Same(back, without(p)) || !sameFiles(found, files) {
		t.Fatalf("P7.7: Read(Build(%s)): %+v, %d files, %d", p.Name, back, len(found), e)
	}
	holdRead(t, data, "an archive")
	if found, e := archive.Check(within(p, data), data); e != api.OK || !sameFiles(found, files) {
		t.Fatalf("P7.6: Check(%s): %d files, %d", p.Name, len(found), e)
	}
}

// P7.4, P7.7: packages with much and with little; example 3. An archive's own name, size and sum are not in it.
func TestBuild(t *testing.T) {
	p, files := whole()
	holdBuild(t, p, files)
	holdBuild(t, lean(nil), nil)
	holdBuild(t, lean(blobs("x", "hi")), blobs("x", "hi"))
	holdBuild(t, full(files), files)
	holdBuild(t, full(nil), []api.Blob{})
	long := strings.Repeat("p", 155) + "/" + strings.Repeat("n", 100)
	holdBuild(t, lean(blobs(long, "1", "q", "")), blobs(long, "1", "q", ""))
	data, _ := archive.Build(p, files)
	const front = "!<arch>\ndebian-binary   0           0     0     100644  4         \x60\n2.0\ncontrol.tar     0           0     0     100644  2048      \x60\ncontrol\x00"
	if !strings.HasPrefix(string(data), front) {
		t.Errorf("P7.4: an archive begins with %q", data[:min(len(data), len(front))])
	}
}

// P7.4: MaxFiles files, and a paragraph of more bytes than other archives have.
func TestBuildMany(t *testing.T) {
	files := make([]api.Blob, 4096)
	for i := range files {
		files[i] = api.Blob{Name: fmt.Sprintf("d/f%04d", i), Data: []byte{byte(i >> 8), byte(i)}}
	}
	holdBuild(t, lean(files), files)
}

// P7.4: which files are not a package's.
func TestBuildFiles(t *testing.T) {
	for i, how := range []func(p *api.Package, files []api.Blob) []api.Blob{
		func(p *api.Package, files []api.Blob) []api.Blob { files[1].Data = []byte("ho"); return files },
		func(p *api.Package, files []api.Blob) []api.Blob { files[1].Data = []byte("hi!"); return files },
		func(p *api.Package, files []api.Blob) []api.Blob { files[0].Data = []byte{0}; return files },
		func(p *api.Package, files []api.Blob) []api.Blob { files[1].Name = "usr/bin/w"; return files },
		func(p *api.Package, files []api.Blob) []api.Blob { return files[:2] },
		func(p *api.Package, files []api.Blob) []api.Blob { return files[1:] },
		func(p *api.Package, files []api.Blob) []api.Blob { return nil },
		func(p *api.Package, files []api.Blob) []api.Blob { return append(files, blobs("z", "")...) },
		func(p *api.Package, files []api.Blob) []api.Blob { return append(files, files[2]) },
		func(p *api.Package, files []api.Blob) []api.Blob {
			files[0], files[1] = files[1], files[0]
			return files
		},
		func(p *api.Package, files []api.Blob) []api.Blob { files[0].Name = "/a"; return files },
		func(p *api.Package, files []api.Blob) []api.Blob {
			files[2].Data = make([]byte, 1048577)
			return files
		},
		func(p *api.Package, files []api.Blob) []api.Blob { p.Files = nil; return files },
		func(p *api.Package, files []api.Blob) []api.Blob { p.Files[1].Size = 3; return files },
		func(p *api.Package, files []api.Blob) []api.Blob { p.Files[2].Sum[31] ^= 1; return files },
		func(p *api.Package, files []api.Blob) []api.Blob { p.Files[2].Path = "usr/bin/z"; return files },
	} {
		p, files := whole()
		files = how(&p, files)
		if data, e := archive.Build(p, files); e != api.ErrArcFile || data != nil {
			t.Errorf("P7.4: the files %d: %d bytes, %d", i, len(data), e)
		}
		text, _ := control.Print(p)
		if tar, e := archive.Tar(files); e == api.OK {
			data := wrapped([]byte("2.0\n"), tarOf(blobs("control", string(text))), tar)
			if _, found, e := archive.Read(data); e != api.ErrArcFile || found != nil {
				t.Errorf("P7.5: the files %d: %d", i, e)
			}
		}
	}
}

// P7.4: a package that may not be, whatever its files are.
func TestBuildPackage(t *testing.T) {
	for _, c := range []struct {
		how func(p *api.Package)
		e   api.Errno
	}{
		{func(p *api.Package) { p.Name = "" }, api.ErrCtlName},
		{func(p *api.Package) { p.Version = "-" }, api.ErrCtlVersion},
		{func(p *api.Package) { p.Provides = []string{"!"} }, api.ErrCtlRelation},
		{func(p *api.Package) { p.Archive = "/" }, api.ErrCtlPath},
		{func(p *api.Package) { p.Size = 1 }, api.ErrCtlValue},
		{func(p *api.Package) { p.Sum[3] = 1 }, api.ErrCtlValue},
		{func(p *api.Package) { p.Files[0].Size = -1 }, api.ErrCtlFiles},
		{func(p *api.Package) { p.Summary = " " }, api.ErrCtlSummary},
		{func(p *api.Package) { p.Depends = samples.LongDepends(api.MaxInput) }, api.ErrLong},
	} {
		p, files := whole()
		c.how(&p)
		for _, l := range [][]api.Blob{files, nil, blobs("/", "")} {
			if data, e := archive.Build(p, l); e != c.e || data != nil {
				t.Errorf("P7.4: Build: %d bytes, %d, want %d", len(data), e, c.e)
			}
		}
		for _, data := range [][]byte{nil, []byte("!<arch>\n"), make([]byte, 77)} {
			if found, e := archive.Check(p, data); e != c.e || found != nil {
				t.Errorf("P7.6: Check: %d, want %d", e, c.e)
			}
		}
	}
}

// ofText tells a package without files whose printed paragraph has so many bytes, of about a million.
func ofText(t *testing.T, size int) api.Package {
	p := lean(nil)
	text, _ := control.Print(p)
	p.Depends = samples.LongDepends(size - len(text) - len("Depends: \n"))
	if text, e := control.Print(p); e != api.OK || len(text) != size {
		t.Fatalf("a paragraph of %d bytes, %d, want %d", len(text), e, size)
	}
	return p
}

// P7.4: a paragraph of MaxFile bytes has an archive, a longer one has none; what the archive's own fields take up does not count.
func TestBuildText(t *testing.T) {
	holdBuild(t, ofText(t, 1048576), nil)
	p := ofText(t, 1048576)
	p.Archive, p.Size = "pool/x", 5
	holdBuild(t, p, nil)
	if data, e := archive.Build(ofText(t, 1048577), nil); e != api.ErrArcSize || data != nil {
		t.Errorf("P7.4: a paragraph of one byte more than MaxFile: %d", e)
	}
	if data, e := archive.Build(ofText(t, 1048577), blobs("a", "x")); e != api.ErrArcFile || data != nil {
		t.Errorf("P7.4: a paragraph too long, of other files: %d", e)
	}
}

// P7.4, P7.5: the greatest archive; one block more, in the files' ustar or in the other one, is too long.
func TestBuildLong(t *testing.T) {
	const most = 16777216 - 320 // of what an archive's bytes may be in number, the greatest
	const frame = 8 + 3*60 + 4 + 512 + 1024
	text, _ := control.Print(lean(ofSize(16777216 - 4096)))
	blocks := (len(text) + 511) / 512 * 512
	files := ofSize(most - frame - blocks)
	holdBuild(t, lean(files), files)
	data, _ := archive.Build(lean(files), files)
	if len(data) != most {
		t.Fatalf("P7.4: the greatest archive has %d bytes", len(data))
	}
	for _, size := range []int{most - frame - blocks + 512, 16777216, 16777216 + 512} {
		files := ofSize(size)
		if data, e := archive.Build(lean(files), files); e != api.ErrLong || data != nil {
			t.Errorf("P7.4: files of %d bytes in all: %d bytes, %d", size, len(data), e)
		}
	}
	p := lean(files)
	p.Provides = []string{strings.Repeat("n", 128), strings.Repeat("n", 128), strings.Repeat("n", 128), strings.Repeat("n", 127)}
	if data, e := archive.Build(p, files); e != api.ErrLong || data != nil {
		t.Errorf("P7.4: a paragraph of one block more: %d bytes, %d", len(data), e)
	}
	if _, found, e := archive.Read(append(data, make([]byte, 320)...)); e != api.ErrArcRest || found != nil {
		t.Errorf("P7.5: MaxInput bytes: %d", e)
	}
	if _, found, e := archive.Read(append(data, make([]byte, 321)...)); e != api.ErrLong || found != nil {
		t.Errorf("P7.5: one byte more than MaxInput: %d", e)
	}
	p = ofText(t, 1048577)
	p.Files = of(files)
	if data, e := archive.Build(p, files); e != api.ErrArcSize || data != nil {
		t.Errorf("P7.4: a paragraph too long ahead of files too long: %d bytes, %d", len(data), e)
	}
}

// P7.6: the archive's own size and sum come first, then what is wrong with it, then whose it is.
func TestCheck(t *testing.T) {
	p, files := whole()
	data, _ := archive.Build(p, files)
	right := within(p, data)
	if found, e := archive.Check(right, data); e != api.OK || !sameFiles(found, files) {
		t.Fatalf("P7.6: Check: %d", e)
	}
	turned := func(at int) []byte {
		other := bytes.Clone(data)
		other[at] ^= 1
		return other
	}
	size, sum, other := right, right, right
	size.Size--
	sum.Sum[0] ^= 1
	other.Summary = "another"
	for i, c := range []struct {
		p    api.Package
		data []byte
		e    api.Errno
	}{
		{size, data, api.ErrArcSum}, {sum, data, api.ErrArcSum}, {right, data[:len(data)-1], api.ErrArcSum}, {right, append(bytes.Clone(data), 0), api.ErrArcSum}, {right, nil, api.ErrArcSum}, {right, turned(len(data) - 1), api.ErrArcSum}, {right, turned(0), api.ErrArcSum}, {right, make([]byte, api.MaxInput+1), api.ErrArcSum},
		{p, data, api.ErrArcSum}, {p, nil, api.ErrArcSum}, {lean(nil), nil, api.ErrArcSum},
		{within(p, turned(0)), turned(0), api.ErrArcMagic}, {within(p, nil), nil, api.ErrArcMagic}, {within(p, data[:8]), data[:8], api.ErrArcShort}, {within(other, turned(0)), turned(0), api.ErrArcMagic}, {within(p, turned(len(data)-1)), turned(len(data) - 1), api.ErrArcPad}, {within(p, append(bytes.Clone(data), 0)), append(bytes.Clone(data), 0), api.ErrArcRest},
		{other, data, api.ErrArcControl}, {within(lean(files), data), data, api.ErrArcControl},
	} {
		if found, e := archive.Check(c.p, c.data); e != c.e || found != nil {
			t.Errorf("P7.6: the case %d: %d files, %d, want %d", i, len(found), e, c.e)
		}
	}
}

// P7.6: an archive of a package that is unlike in one thing is not its own.
func TestCheckControl(t *testing.T) {
	p, files := whole()
	data, _ := archive.Build(p, files)
	for i, how := range []func(p *api.Package){
		func(p *api.Package) { p.Name = "ab" },
		func(p *api.Package) { p.Version = "1:2-03" },
		func(p *api.Package) { p.Essential = false },
		func(p *api.Package) { p.Depends = p.Depends[:1] },
		func(p *api.Package) { p.PreDepends = nil },
		func(p *api.Package) { p.Conflicts[0].Version = "3" },
		func(p *api.Package) { p.Provides[0] = "g2" },
		func(p *api.Package) { p.Files = p.Files[:2] },
		func(p *api.Package) { p.Files[1].Sum[0] ^= 1 },
		func(p *api.Package) { p.Summary = "" },
	} {
		other := within(full(files), data)
		how(&other)
		if found, e := archive.Check(other, data); e != api.ErrArcControl || found != nil {
			t.Errorf("P7.6: the package %d: %d", i, e)
		}
	}
	elsewhere := within(p, data)
	elsewhere.Archive = "another/name"
	if found, e := archive.Check(elsewhere, data); e != api.OK || !sameFiles(found, files) {
		t.Errorf("P7.6: an archive of another name: %d", e)
	}
}
