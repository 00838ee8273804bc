package archive_test

import (
	"bytes"
	"fmt"
	"regexp"
	"slices"
	"strconv"
	"strings"
	"testing"

	"larder/api"
	"larder/archive"
	"larder/control"
	"larder/sha"
	"larder/stanza"
)

// blobs makes files of names and contents, by turns.
func blobs(texts ...string) []api.Blob {
	var files []api.Blob
	for i := 0; i+1 < len(texts); i += 2 {
		files = append(files, api.Blob{Name: texts[i], Data: []byte(texts[i+1])})
	}
	return files
}

// zeros makes a file of so many zero bytes.
func zeros(name string, size int) api.Blob { return api.Blob{Name: name, Data: make([]byte, size)} }

func sameFiles(a, b []api.Blob) bool {
	return slices.EqualFunc(a, b, func(f, g api.Blob) bool { return f.Name == g.Name && bytes.Equal(f.Data, g.Data) })
}

// parts are the fields of a ustar's header as they stand in it, to be turned one by one; without a sum it has the right one.
type parts struct{ name, mode, owner, group, size, time, sum, kind, magic, prefix, rest string }

// usual tells the right fields of a file.
func usual(path string, size int) parts {
	prefix, name, _ := control.Split(path)
	return parts{name: name, mode: "0000644\x00", owner: "0000000\x00", group: "0000000\x00", size: fmt.Sprintf("%011o\x00", size), time: "00000000000\x00", kind: "0", magic: "ustar\x0000", prefix: prefix}
}

// bytes lays the fields at the places of the chapter's table.
func (p parts) bytes() []byte {
	h := make([]byte, 512)
	for _, f := range []struct {
		from int
		text string
	}{{0, p.name}, {100, p.mode}, {108, p.owner}, {116, p.group}, {124, p.size}, {136, p.time}, {156, p.kind}, {257, p.magic}, {345, p.prefix}, {500, p.rest}} {
		copy(h[f.from:], f.text)
	}
	mendSum(h)
	copy(h[148:156], p.sum)
	return h
}

// mendSum gives a header the sum that its other bytes have.
func mendSum(h []byte) {
	copy(h[148:156], "        ")
	sum := 0
	for _, b := range h[:512] {
		sum += int(b)
	}
	copy(h[148:156], fmt.Sprintf("%06o\x00 ", sum))
}

// tarOf lays a ustar by the chapter's words.
func tarOf(files []api.Blob) []byte {
	var data []byte
	for _, f := range files {
		data = append(data, usual(f.Name, len(f.Data)).bytes()...)
		data = append(data, f.Data...)
		for len(data)%512 != 0 {
			data = append(data, 0)
		}
	}
	return append(data, make([]byte, 1024)...)
}

// sizeForm is a header's size.
var sizeForm = regexp.MustCompile("^[0-7]{11}\x00$")

// oracleHeader reads a header field by field.
func oracleHeader(h []byte) (path string, size int, ok bool) {
	name, prefix := strings.TrimRight(string(h[:100]), "\x00"), strings.TrimRight(string(h[345:500]), "\x00")
	path = name
	if prefix != "" {
		path = prefix + "/" + name
	}
	wantPrefix, wantName, e := control.Split(path)
	if e != api.OK || prefix != wantPrefix || name != wantName || !sizeForm.Match(h[124:136]) {
		return "", 0, false
	}
	n, _ := strconv.ParseInt(string(h[124:135]), 8, 64)
	right := bytes.Clone(h)
	mendSum(right)
	if !bytes.Equal(h, right) || string(h[100:124]) != "0000644\x000000000\x000000000\x00" || string(h[136:148]) != "00000000000\x00" || h[156] != '0' {
		return "", 0, false
	}
	none := string(make([]byte, 100))
	if string(h[157:257]) != none || string(h[257:265]) != "ustar\x0000" || string(h[265:345]) != none[:80] || string(h[500:512]) != none[:12] {
		return "", 0, false
	}
	return path, int(n), true
}

// oracleUntar reads a ustar by the chapter's words.
func oracleUntar(data []byte) ([]api.Blob, api.Errno) {
	if len(data) > 16777216 {
		return nil, api.ErrLong
	}
	var files []api.Blob
	none := make([]byte, 512)
	at := 0
	for {
		if len(data)-at < 512 {
			return nil, api.ErrArcShort
		}
		h := data[at : at+512]
		at += 512
		if bytes.Equal(h, none) {
			break
		}
		path, size, ok := oracleHeader(h)
		if !ok {
			return nil, api.ErrArcHeader
		}
		if size > 1048576 {
			return nil, api.ErrArcSize
		}
		fill := (512 - size%512) % 512
		if len(data)-at < size+fill {
			return nil, api.ErrArcShort
		}
		if !bytes.Equal(data[at+size:at+size+fill], none[:fill]) {
			return nil, api.ErrArcPad
		}
		files = append(files, api.Blob{Name: path, Data: data[at : at+size]})
		at += size + fill
	}
	if len(data)-at < 512 {
		return nil, api.ErrArcShort
	}
	if !bytes.Equal(data[at:at+512], none) {
		return nil, api.ErrArcPad
	}
	if len(data)-at > 512 {
		return nil, api.ErrArcRest
	}
	return files, api.OK
}

// holdUntar holds Untar against the oracle, and its files back against the bytes.
func holdUntar(t *testing.T, data []byte, what string) {
	t.Helper()
	files, e := archive.Untar(data)
	wantFiles, want := oracleUntar(data)
	if e != want || !sameFiles(files, wantFiles) {
		t.Fatalf("P7.2: Untar of %s: %d files, %d, want %d files, %d", what, len(files), e, len(wantFiles), want)
	}
	if e != api.OK {
		return
	}
	if back, e := archive.Tar(files); e != api.OK || !bytes.Equal(back, data) {
		t.Fatalf("P7.7: Tar(Untar(%s)): %d bytes, %d", what, len(back), e)
	}
}

// member tells a member of an archive whose size stands as it is given, with the filling that it must have.
func member(name, size string, data []byte) []byte {
	text := fmt.Sprintf("%-16s%-12s%-6s%-6s%-8s%-10s\x60\n%s", name, "0", "0", "0", "100644", size, data)
	if len(data)%2 == 1 {
		text += "\n"
	}
	return []byte(text)
}

// wrapped tells an archive of the bytes of its three members.
func wrapped(version, controlTar, dataTar []byte) []byte {
	return slices.Concat([]byte("!<arch>\n"), member("debian-binary", strconv.Itoa(len(version)), version), member("control.tar", strconv.Itoa(len(controlTar)), controlTar), member("data.tar", strconv.Itoa(len(dataTar)), dataTar))
}

// around tells an archive of a control file's text and files.
func around(text string, files []api.Blob) []byte {
	return wrapped([]byte("2.0\n"), tarOf(blobs("control", text)), tarOf(files))
}

// headForms are the headers of the three members, the size kept.
var headForms = map[string]*regexp.Regexp{
	"debian-binary": regexp.MustCompile("^debian-binary   0           0     0     100644  (0|[1-9][0-9]*) *\x60\n$"),
	"control.tar":   regexp.MustCompile("^control[.]tar     0           0     0     100644  (0|[1-9][0-9]*) *\x60\n$"),
	"data.tar":      regexp.MustCompile("^data[.]tar        0           0     0     100644  (0|[1-9][0-9]*) *\x60\n$"),
}

// oracleMember reads the member at the front.
func oracleMember(data []byte, name string) (body, rest []byte, e api.Errno) {
	if len(data) < 60 {
		return nil, nil, api.ErrArcShort
	}
	found := headForms[name].FindSubmatch(data[:60])
	if found == nil {
		return nil, nil, api.ErrArcMember
	}
	size, _ := strconv.Atoi(string(found[1]))
	data = data[60:]
	if len(data) < (size+1)/2*2 {
		return nil, nil, api.ErrArcShort
	}
	if size%2 == 1 && data[size] != 10 {
		return nil, nil, api.ErrArcPad
	}
	return data[:size], data[(size+1)/2*2:], api.OK
}

// oracleControl reads control.tar.
func oracleControl(data []byte) (api.Package, api.Errno) {
	files, e := oracleUntar(data)
	if e != api.OK {
		return api.Package{}, e
	}
	if len(files) != 1 || files[0].Name != "control" {
		return api.Package{}, api.ErrArcControl
	}
	paragraphs, _, e := stanza.Parse(files[0].Data)
	if e != api.OK || len(paragraphs) == 0 {
		return api.Package{}, api.ErrArcControl
	}
	p, _, e := control.Read(paragraphs[0])
	text, _ := control.Print(p)
	if e != api.OK || string(text) != string(files[0].Data) || bytes.Contains(text, []byte("\nFilename: ")) {
		return api.Package{}, api.ErrArcControl
	}
	return p, api.OK
}

// oracleRead reads an archive by the chapter's words.
func oracleRead(data []byte) (api.Package, []api.Blob, api.Errno) {
	var none api.Package
	if len(data) > 16777216 {
		return none, nil, api.ErrLong
	}
	if !bytes.HasPrefix(data, []byte("!<arch>\n")) {
		return none, nil, api.ErrArcMagic
	}
	version, data, e := oracleMember(data[8:], "debian-binary")
	if e != api.OK {
		return none, nil, e
	}
	if string(version) != "2.0\n" {
		return none, nil, api.ErrArcMember
	}
	controlTar, data, e := oracleMember(data, "control.tar")
	if e != api.OK {
		return none, nil, e
	}
	p, e := oracleControl(controlTar)
	if e != api.OK {
		return none, nil, e
	}
	dataTar, data, e := oracleMember(data, "data.tar")
	if e != api.OK {
		return none, nil, e
	}
	files, e := oracleUntar(dataTar)
	if e != api.OK {
		return none, nil, e
	}
	if len(data) > 0 {
		return none, nil, api.ErrArcRest
	}
	if len(files) != len(p.Files) {
		return none, nil, api.ErrArcFile
	}
	for i, f := range files {
		if p.Files[i].Path != f.Name || p.Files[i].Size != len(f.Data) || p.Files[i].Sum != sha.Sum(f.Data) {
			return none, nil, api.ErrArcFile
		}
	}
	return p, files, api.OK
}

// holdRead holds Read against the oracle, and what it tells back against the bytes.
func holdRead(t *testing.T, data []byte, what string) {
	t.Helper()
	p, files, e := archive.Read(data)
	wantPackage, wantFiles, want := oracleRead(data)
	if e != want || !sameFiles(files, wantFiles) || !control.Same(p, wantPackage) {
		t.Fatalf("P7.5: Read of %s: %+v, %d files, %d, want %+v, %d files, %d", what, p, len(files), e, wantPackage, len(wantFiles), want)
	}
	if e != api.OK {
		return
	}
	if back, e := archive.Build(p, files); e != api.OK || !bytes.Equal(back, data) {
		t.Fatalf("P7.7: Build(Read(%s)): %d bytes, %d", what, len(back), e)
	}
}
