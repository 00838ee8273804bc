package archive_test

import (
	"bytes"
	"fmt"
	"math/rand"
	"reflect"
	"slices"
	"strings"
	"testing"

	"larder/api"
	"larder/archive"
	"larder/control"
)

// small is an archive of a package with two files.
func small() ([]byte, api.Package, []api.Blob) {
	files := blobs("x", "hi", "y", "ho!")
	p := lean(files)
	text, _ := control.Print(p)
	return around(string(text), files), p, files
}

// refused holds that Read answers an error, and nothing beside it.
func refused(t *testing.T, data []byte, want api.Errno, what string) {
	t.Helper()
	p, files, e := archive.Read(data)
	if e != want || files != nil || !reflect.DeepEqual(p, api.Package{}) {
		t.Errorf("P7.5: Read of %s: %+v, %d files, %d, want %d", what, p, len(files), e, want)
	}
	holdRead(t, data, what)
}

// P7.5: every cut, and bytes behind the end.
func TestReadCuts(t *testing.T) {
	data, p, files := small()
	if back, found, e := archive.Read(data); e != api.OK || !control.Same(back, p) || !sameFiles(found, files) {
		t.Fatalf("P7.5: Read: %+v, %d files, %d", back, len(found), e)
	}
	for n := range data {
		want := api.ErrArcShort
		if n < 8 {
			want = api.ErrArcMagic
		}
		refused(t, data[:n], want, fmt.Sprintf("the first %d bytes", n))
	}
	for _, more := range []string{"\n", "\x00", "x", string(member("more", "0", nil)), string(data)} {
		refused(t, append(bytes.Clone(data), more...), api.ErrArcRest, fmt.Sprintf("%d bytes behind the end", len(more)))
	}
}

// P7.5: every byte of an archive, turned into many others.
func TestReadBytes(t *testing.T) {
	data, _, _ := small()
	for at, was := range data {
		for _, b := range []byte{0, ' ', '\n', '/', '0', '1', '7', '8', 'a', 'A', 0x80, was ^ 1, was + 1} {
			data[at] = b
			holdRead(t, data, fmt.Sprintf("an archive whose byte %d is %d", at, b))
		}
		data[at] = was
	}
}

// P7.5: some bytes taken out, put in, doubled or turned, by chance that is the same each time.
func TestReadMixed(t *testing.T) {
	chance := rand.New(rand.NewSource(7))
	whole, _, _ := small()
	for range 20000 {
		data := bytes.Clone(whole)
		for range 1 + chance.Intn(3) {
			at := chance.Intn(len(data))
			n := []int{1, 2, 4, 60, 512}[chance.Intn(5)]
			switch chance.Intn(4) {
			case 0:
				data[at] = byte(chance.Intn(256))
			case 1:
				data = slices.Delete(data, at, min(at+n, len(data)))
			case 2:
				data = slices.Insert(data, at, make([]byte, n)...)
			case 3:
				data = slices.Insert(data, at, data[at:min(at+n, len(data))]...)
			}
		}
		holdRead(t, data, "a mixed archive")
	}
}

// P7.5: what stands ahead of the first member.
func TestReadMagic(t *testing.T) {
	data, _, _ := small()
	for _, front := range []string{"", "!<arch>", "!<arch>\r\n", "!<ARCH>\n", "!<thin>\n", " !<arch>\n", "!<arch>\n!<arch>\n"} {
		want := api.ErrArcMagic
		if front == "!<arch>\n!<arch>\n" {
			want = api.ErrArcMember
		}
		refused(t, append([]byte(front), data[8:]...), want, fmt.Sprintf("an archive that begins with %q", front))
	}
	refused(t, nil, api.ErrArcMagic, "nothing")
	refused(t, make([]byte, 16777216), api.ErrArcMagic, "MaxInput zero bytes")
	refused(t, make([]byte, 16777217), api.ErrLong, "one byte more than MaxInput")
}

// P7.5: members' headers that are not as they must be; of each of the three members.
func TestReadHeads(t *testing.T) {
	data, p, files := small()
	text, _ := control.Print(p)
	controlTar, dataTar := tarOf(blobs("control", string(text))), tarOf(files)
	at := []int{8, 8 + 64, 8 + 64 + 60 + len(controlTar)}
	for place, from := range at {
		head := string(data[from : from+60])
		size := strings.TrimRight(head[48:58], " ")
		sized := func(text string) string { return head[:48] + fmt.Sprintf("%-10s", text) + head[58:] }
		for _, wrong := range []string{
			sized("0" + size), sized("+" + size), sized("-" + size), sized("-1"), sized(" " + size), sized(""), sized("x"), sized(size + "x"), sized(size + "\x00"), sized("0x4"), sized("4_0"), sized("4 0"), sized("1e3"), sized("-000000001"), sized("\t" + size), sized("00"),
			strings.Replace(head, "100644", "100755", 1), strings.Replace(head, "100644", "0644  ", 1), strings.Replace(head, "\x60\n", "\x60\r", 1), strings.Replace(head, "\x60\n", "'\n", 1), head[:16] + "1" + head[17:], head[:28] + "1" + head[29:], head[:34] + "1" + head[35:],
			strings.ToUpper(head), "/" + head[:15] + head[16:], strings.Replace(head, " ", "/", 1), " " + head[:15] + head[16:], strings.Repeat(" ", 60), strings.Repeat("\x00", 60),
		} {
			turned := bytes.Clone(data)
			copy(turned[from:], wrong)
			refused(t, turned, api.ErrArcMember, fmt.Sprintf("an archive whose header %d is %q", place, wrong))
			refused(t, turned[:from+60], api.ErrArcMember, fmt.Sprintf("an archive that ends with the header %q", wrong))
			refused(t, turned[:from+59], api.ErrArcShort, fmt.Sprintf("an archive that ends within the header %q", wrong))
		}
		for _, size := range []string{"9999999999", "9999999998", "9223372036", "4294967296"} {
			turned := bytes.Clone(data)
			copy(turned[from:], sized(size))
			refused(t, turned, api.ErrArcShort, fmt.Sprintf("an archive whose member %d has the size %s", place, size))
		}
	}
	version := []byte("2.0\n")
	first, second, third := member("debian-binary", "4", version), member("control.tar", fmt.Sprint(len(controlTar)), controlTar), member("data.tar", fmt.Sprint(len(dataTar)), dataTar)
	for _, row := range [][][]byte{{second, first, third}, {second, third, first}, {first, third, second}, {third, first, second}, {first, first, second, third}, {first, second, second, third}, {second, third}, {first, third}} {
		refused(t, append([]byte("!<arch>\n"), slices.Concat(row...)...), api.ErrArcMember, "members in another order")
	}
	for _, row := range [][][]byte{{}, {first}, {first, second}} {
		refused(t, append([]byte("!<arch>\n"), slices.Concat(row...)...), api.ErrArcShort, "too few members")
	}
	refused(t, append([]byte("!<arch>\n"), slices.Concat(first, second, third, third)...), api.ErrArcRest, "a member twice")
}

// P7.5: members with an odd number of bytes, and their filling.
func TestReadOdd(t *testing.T) {
	_, p, files := small()
	text, _ := control.Print(p)
	version, controlTar, dataTar := []byte("2.0\n"), tarOf(blobs("control", string(text))), tarOf(files)
	odd := []struct {
		version, control, data []byte
		e                      api.Errno
	}{
		{[]byte("2.0"), controlTar, dataTar, api.ErrArcMember},
		{[]byte("2.0\n\n"), controlTar, dataTar, api.ErrArcMember},
		{version, controlTar[:len(controlTar)-1], dataTar, api.ErrArcShort},
		{version, append(bytes.Clone(controlTar), 0), dataTar, api.ErrArcRest},
		{version, controlTar, dataTar[:len(dataTar)-1], api.ErrArcShort},
		{version, controlTar, append(bytes.Clone(dataTar), 0), api.ErrArcRest},
	}
	for i, c := range odd {
		data := wrapped(c.version, c.control, c.data)
		refused(t, data, c.e, fmt.Sprintf("the odd member %d", i))
		end := []int{8 + 60 + len(c.version), 8 + 64 + 60 + len(c.control), len(data) - 1}[i/2]
		if data[end] != '\n' {
			t.Fatalf("the odd member %d is not filled at %d", i, end)
		}
		refused(t, data[:end], api.ErrArcShort, fmt.Sprintf("the odd member %d without its filling", i))
		for _, b := range []byte{0, ' ', '\r', 'x', 0x8a} {
			data[end] = b
			refused(t, data, api.ErrArcPad, fmt.Sprintf("the odd member %d filled with %d", i, b))
		}
	}
	for _, version := range []string{"", "2.1\n", "2.0\r\n", "2.0\n2.0\n", "2.0 ", "02.0"} {
		refused(t, wrapped([]byte(version), controlTar, dataTar), api.ErrArcMember, fmt.Sprintf("the version %q", version))
	}
	refused(t, wrapped(version, nil, dataTar), api.ErrArcShort, "an empty control.tar")
	refused(t, wrapped(version, controlTar, nil), api.ErrArcShort, "an empty data.tar")
}

// P7.5: control files that are not a package's printed paragraph, though some of them say the same.
func TestReadControl(t *testing.T) {
	_, p, files := small()
	printed, _ := control.Print(p)
	text := string(printed)
	tail := text[len("Package: aa\nVersion: 1\n"):]
	owned, _ := control.Print(within(p, []byte("x")))
	for _, wrong := range []string{
		"", "\n", "x", ": x", " x", "Package: aa\n", "Version: 1\n" + tail, "Version: 1\nPackage: aa\n" + tail, strings.ToLower(text), strings.Replace(text, "Version", "version", 1), strings.Replace(text, ": 1", ":1", 1), strings.Replace(text, ": 1", ":  1", 1), strings.Replace(text, ": 1", ": 1 ", 1), "\n" + text, text + "\n", text + "\n" + text, text[:len(text)-1], text + "# x\n", "# x\n" + text, text + "Other: x\n", text + "Essential: no\n", "Package: aa\nVersion: 1\nEssential: no\n" + tail, text + "Description:\n", text + "Description: x\n more\n", "Package: aa\nVersion: 1\nDepends: bb|cc\n" + tail, "Package: aa\nVersion: 1\nDepends: bb,\n cc\n" + tail, "Package: aa\nVersion: 1\nDepends:\n" + tail, "Package: !\nVersion: 1\n" + tail, "Package: aa\nVersion: _\n" + tail, text + "Package: aa\n", "Package: aa\nVersion: 1\nSize: 5\n" + tail, strings.ReplaceAll(text, "\n", "\r\n"), strings.ReplaceAll(text, "\n ", "\n  "), string(owned), "Package: aa\nVersion: 1\nFilename:\n" + tail, text + "\x00",
	} {
		refused(t, around(wrong, files), api.ErrArcControl, fmt.Sprintf("the control file %q", wrong))
	}
	for _, right := range []string{text, text + "Description: x\n", "Package: aa\nVersion: 1\nEssential: yes\nDepends: bb | cc\n" + tail} {
		if _, found, e := archive.Read(around(right, files)); e != api.OK || !sameFiles(found, files) {
			t.Errorf("P7.5: the control file %q: %d", right, e)
		}
	}
	for i, inner := range [][]api.Blob{nil, blobs("Control", text), blobs("control2", text), blobs("x/control", text), blobs("control", text, "control", text), blobs("control", text, "md5sums", ""), blobs("a", "", "control", text), blobs("x", text)} {
		refused(t, wrapped([]byte("2.0\n"), tarOf(inner), tarOf(files)), api.ErrArcControl, fmt.Sprintf("the control.tar %d", i))
	}
	dotted := tarOf(blobs("control", text))
	h := usual("control", len(text))
	h.name = "./control"
	copy(dotted, h.bytes())
	refused(t, wrapped([]byte("2.0\n"), dotted, tarOf(files)), api.ErrArcHeader, "a control.tar of ./control")
}

// P7.5: which of several wrong things is told.
func TestReadFirst(t *testing.T) {
	_, p, files := small()
	printed, _ := control.Print(p)
	version, controlTar, dataTar := []byte("2.0\n"), tarOf(blobs("control", string(printed))), tarOf(files)
	badHeader, badPad, badFiles := bytes.Clone(dataTar), bytes.Clone(dataTar), tarOf(blobs("x", "ha", "y", "ho!"))
	badHeader[0] = 'z'
	badPad[514] = 1
	badControl := tarOf(blobs("control", "x"))
	for i, c := range []struct {
		data []byte
		e    api.Errno
	}{
		{wrapped([]byte("2.1\n"), badHeader, dataTar), api.ErrArcMember},
		{wrapped(version, badHeader, badPad), api.ErrArcHeader},
		{wrapped(version, badPad, badHeader), api.ErrArcPad},
		{wrapped(version, badControl, badHeader), api.ErrArcControl},
		{wrapped(version, controlTar, badHeader), api.ErrArcHeader},
		{wrapped(version, controlTar, badPad), api.ErrArcPad},
		{wrapped(version, controlTar, badFiles), api.ErrArcFile},
		{append(wrapped(version, controlTar, badFiles), 0), api.ErrArcRest},
		{append(wrapped(version, controlTar, badPad), 0), api.ErrArcPad},
		{append(wrapped(version, badControl, dataTar), 0), api.ErrArcControl},
		{slices.Concat([]byte("!<arch>\n"), member("debian-binary", "4", version), member("control.tar", fmt.Sprint(len(badControl)), badControl), []byte("x")), api.ErrArcControl},
		{slices.Concat([]byte("!<arch>\n"), member("debian-binary", "4", []byte("2.1\n")), []byte("x")), api.ErrArcMember},
		{wrapped(version, controlTar, controlTar), api.ErrArcFile},
		{wrapped(version, dataTar, controlTar), api.ErrArcControl},
	} {
		refused(t, c.data, c.e, fmt.Sprintf("the case %d", i))
	}
}

// P7.5: files of which the stanza knows nothing, too many, out of order or twice; a file of one byte more (example 4).
func TestReadFiles(t *testing.T) {
	_, p, files := small()
	printed, _ := control.Print(p)
	x, y := files[0], files[1]
	for i, others := range [][]api.Blob{nil, {x}, {y}, {y, x}, {x, x}, {x, y, y}, {x, x, y}, {x, y, zeros("z", 0)}, {zeros("a", 0), x, y}, {x, {Name: "y", Data: []byte("ho!!")}}, {x, {Name: "y", Data: []byte("ho")}}, {x, {Name: "y", Data: []byte("ho?")}}, {x, {Name: "yy", Data: y.Data}}} {
		refused(t, around(string(printed), others), api.ErrArcFile, fmt.Sprintf("the files %d", i))
	}
	none, _ := control.Print(lean(nil))
	refused(t, around(string(none), files), api.ErrArcFile, "files of a package without any")
	many := make([]api.Blob, 4097)
	for i := range many {
		many[i].Name = fmt.Sprintf("f%04d", i)
	}
	first, _ := control.Print(lean(many[:4096]))
	refused(t, around(string(first), many), api.ErrArcFile, "4097 files")
}
