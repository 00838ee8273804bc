package archive_test

import (
	"archive/tar"
	"bytes"
	"errors"
	"fmt"
	"io"
	"strings"
	"testing"

	"larder/api"
	"larder/archive"
)

// holdTar holds Tar of files that may be against the oracle and against what the library reads, and the bytes back against the files.
func holdTar(t *testing.T, files []api.Blob) {
	t.Helper()
	data, e := archive.Tar(files)
	if e != api.OK || !bytes.Equal(data, tarOf(files)) {
		t.Fatalf("P7.1: Tar of %d files: %d bytes, %d", len(files), len(data), e)
	}
	reader := tar.NewReader(bytes.NewReader(data))
	for _, f := range files {
		h, err := reader.Next()
		if err != nil || h.Name != f.Name || h.Mode != 0o644 || h.Typeflag != tar.TypeReg || h.Size != int64(len(f.Data)) || h.Uid != 0 || h.Gid != 0 || h.ModTime.Unix() != 0 || h.Format != tar.FormatUSTAR {
			t.Fatalf("P7.1: the library reads %+v, %v of the file %q", h, err, f.Name)
		}
		if found, err := io.ReadAll(reader); err != nil || !bytes.Equal(found, f.Data) {
			t.Fatalf("P7.1: the library reads %d bytes, %v of the file %q", len(found), err, f.Name)
		}
	}
	if _, err := reader.Next(); !errors.Is(err, io.EOF) {
		t.Fatalf("P7.1: the library reads more than %d files: %v", len(files), err)
	}
	if back, e := archive.Untar(data); e != api.OK || !sameFiles(back, files) {
		t.Fatalf("P7.7: Untar(Tar(%d files)): %d files, %d", len(files), len(back), e)
	}
}

// P7.1: example 1; names may stand twice, and in any order.
func TestTar(t *testing.T) {
	for _, none := range [][]api.Blob{nil, {}} {
		if data, e := archive.Tar(none); e != api.OK || !bytes.Equal(data, make([]byte, 1024)) {
			t.Errorf("P7.1: Tar of nothing: %d bytes, %d", len(data), e)
		}
	}
	data, e := archive.Tar(blobs("a", "x"))
	if e != api.OK || len(data) != 2048 || string(data[:1]) != "a" || string(data[512:513]) != "x" || string(data[124:136]) != "00000000001\x00" || string(data[148:156]) != "006077\x00 " {
		t.Errorf("P7.1: Tar of a: %d bytes, %d: %q", len(data), e, data[:min(len(data), 520)])
	}
	holdTar(t, blobs("a", "x"))
	holdTar(t, blobs("b", "", "a", "1", "b", "22", "b", "22"))
	holdTar(t, blobs("usr/bin/x", "\x00\xff", "!", "\n", "~", strings.Repeat("\x80", 600)))
}

// P7.1: files of all sizes about the filling's bounds, each bit of a size, and at MaxFile.
func TestTarSizes(t *testing.T) {
	for size := range 1540 {
		holdTar(t, []api.Blob{{Name: "a", Data: bytes.Repeat([]byte{0xa5}, size)}})
	}
	for bit := 11; bit < 20; bit++ {
		holdTar(t, []api.Blob{{Name: "a", Data: bytes.Repeat([]byte{1}, 1<<bit-1)}, {Name: "b", Data: bytes.Repeat([]byte{2}, 1<<bit+1)}})
	}
	holdTar(t, []api.Blob{zeros("a", 1048575), zeros("b", 1048576), {Name: "c"}})
}

// P7.1: paths of all lengths, cut where they must be; bytes of all values that a path may have.
func TestTarPaths(t *testing.T) {
	for n := 1; n <= 256; n++ {
		for _, slash := range []int{0, 1, n / 2, n - 101, n - 100, n - 99, n - 2, 155} {
			path := strings.Repeat("x", n)
			if slash > 0 && slash < n-1 {
				path = path[:slash] + "/" + path[slash+1:]
			}
			if n <= 100 || slash >= n-101 && slash <= 155 && slash > 0 && slash < n-1 {
				holdTar(t, []api.Blob{{Name: path, Data: []byte("1")}, {Name: "z"}})
			} else if data, e := archive.Tar([]api.Blob{{Name: path}}); e != api.ErrCtlPath || data != nil {
				t.Errorf("P7.1: a path of %d bytes with a slash at %d: %d", n, slash, e)
			}
		}
	}
	for b := range 256 {
		for _, path := range []string{string([]byte{byte(b)}), "a" + string([]byte{byte(b)}), "a" + string([]byte{byte(b)}) + "b"} {
			_, e := archive.Tar(blobs(path, "x"))
			if right := b > 32 && b < 127 && !(path == "." || path[len(path)-1] == '/'); right != (e == api.OK) || !right && e != api.ErrCtlPath {
				t.Errorf("P7.1: the path %q: %d", path, e)
			}
		}
	}
}

// P7.1, P7.3: of single files the first one's error counts, of one file its name's; they are told ahead of what is wrong with all.
func TestSingleErrors(t *testing.T) {
	pool := []struct {
		file api.Blob
		e    api.Errno
	}{
		{zeros("a", 0), api.OK}, {zeros("b", 1048576), api.OK}, {zeros("a", 1048577), api.ErrArcSize}, {zeros("", 1048577), api.ErrCtlPath}, {zeros("a//b", 1), api.ErrCtlPath}, {api.Blob{}, api.ErrCtlPath}, {zeros("../x", 0), api.ErrCtlPath}, {zeros("a", 2097152), api.ErrArcSize}, {zeros(strings.Repeat("n", 101), 0), api.ErrCtlPath},
	}
	for _, a := range pool {
		for _, b := range pool {
			for _, c := range pool {
				want, rising := api.OK, a.file.Name < b.file.Name && b.file.Name < c.file.Name
				for _, e := range []api.Errno{c.e, b.e, a.e} {
					if e != api.OK {
						want = e
					}
				}
				files := []api.Blob{a.file, b.file, c.file}
				if data, e := archive.Tar(files); e != want || (e == api.OK) != (data != nil) {
					t.Fatalf("P7.1: Tar of %q, %q, %q: %d, want %d", a.file.Name, b.file.Name, c.file.Name, e, want)
				}
				if want == api.OK && !rising {
					want = api.ErrCtlFiles
				}
				if list, e := archive.Manifest(files); e != want || (e == api.OK) != (list != nil) {
					t.Fatalf("P7.3: Manifest of %q, %q, %q: %d, want %d", a.file.Name, b.file.Name, c.file.Name, e, want)
				}
			}
		}
	}
}

// ofSize tells files whose ustar has just so many bytes, a multiple of 512: as many of MaxFile as may be, none of them empty.
func ofSize(size int) []api.Blob {
	left := size - 1024
	var files []api.Blob
	for left > 0 {
		n := min(left-512, api.MaxFile)
		if left-512-n == 512 {
			n -= 512
		}
		files = append(files, api.Blob{Name: fmt.Sprintf("f%03d", len(files)), Data: bytes.Repeat([]byte{byte(len(files) + 1)}, n)})
		left -= 512 + n
	}
	return files
}

// P7.1, P7.2: a ustar of MaxInput bytes is made and read, a greater one is not; a single file's error comes first.
func TestTarLong(t *testing.T) {
	for _, size := range []int{16777216 - 512, 16777216} {
		files := ofSize(size)
		data, e := archive.Tar(files)
		if e != api.OK || len(data) != size {
			t.Fatalf("P7.1: %d bytes, %d, want %d bytes", len(data), e, size)
		}
		if back, e := archive.Untar(data); e != api.OK || !sameFiles(back, files) {
			t.Errorf("P7.7: Untar of %d bytes: %d", size, e)
		}
		if _, e := archive.Untar(append(data, 0)); size == 16777216 && e != api.ErrLong || size < 16777216 && e != api.ErrArcRest {
			t.Errorf("P7.2: Untar of %d bytes: %d", size+1, e)
		}
	}
	files := ofSize(16777216 + 512)
	if data, e := archive.Tar(files); e != api.ErrLong || data != nil {
		t.Errorf("P7.1: one block more than MaxInput: %d bytes, %d", len(data), e)
	}
	if data, e := archive.Tar(append(files, api.Blob{Name: "/"})); e != api.ErrCtlPath || data != nil {
		t.Errorf("P7.1: a wrong path behind too many bytes: %d", e)
	}
	if data, e := archive.Tar(append(files, zeros("a", 1048577))); e != api.ErrArcSize || data != nil {
		t.Errorf("P7.1: a file too long behind too many bytes: %d", e)
	}
	if data, e := archive.Tar(make([]api.Blob, 0, 9)); e != api.OK || len(data) != 1024 {
		t.Errorf("P7.1: Tar of an empty list: %d", e)
	}
	empty := make([]api.Blob, 32766)
	for i := range empty {
		empty[i].Name = "e"
	}
	if data, e := archive.Tar(empty); e != api.OK || len(data) != 16777216 {
		t.Errorf("P7.1: 32766 empty files: %d bytes, %d", len(data), e)
	}
	if _, e := archive.Tar(append(empty, empty[0])); e != api.ErrLong {
		t.Errorf("P7.1: 32767 empty files: %d", e)
	}
}

// P7.2: example 1, and other texts of few blocks.
func TestUntarBlocks(t *testing.T) {
	blocks := [][]byte{make([]byte, 512), usual("a", 0).bytes(), usual("b", 1).bytes(), append([]byte{'x'}, make([]byte, 511)...), append(make([]byte, 511), 1), make([]byte, 511), {1}}
	var rows [][]byte
	for from, most := 0, 0; most <= 5; most++ {
		if most == 0 {
			rows = append(rows, nil)
			continue
		}
		end := len(rows)
		for _, row := range rows[from:end] {
			for _, block := range blocks {
				rows = append(rows, append(bytes.Clone(row), block...))
			}
		}
		from = end
	}
	for _, row := range rows {
		holdUntar(t, row, fmt.Sprintf("%d bytes of blocks", len(row)))
	}
	for size, want := range map[int]api.Errno{0: api.ErrArcShort, 511: api.ErrArcShort, 512: api.ErrArcShort, 1023: api.ErrArcShort, 1024: api.OK, 1025: api.ErrArcRest, 1536: api.ErrArcRest, 16777216: api.ErrArcRest, 16777217: api.ErrLong} {
		if files, e := archive.Untar(make([]byte, size)); e != want || len(files) != 0 {
			t.Errorf("P7.2: Untar of %d zero bytes: %d, want %d", size, e, want)
		}
	}
}

// three is a ustar of three files, one without bytes and one whose bytes want no filling.
func three() []byte {
	return tarOf(blobs(strings.Repeat("p", 120)+"/"+strings.Repeat("n", 100), "", "a/b", strings.Repeat("z", 512), "c", "hi"))
}

// P7.2: every cut, and bytes behind the end.
func TestUntarCuts(t *testing.T) {
	whole := three()
	for n := range whole {
		if files, e := archive.Untar(whole[:n]); e != api.ErrArcShort || files != nil {
			t.Fatalf("P7.2: Untar of the first %d bytes: %d", n, e)
		}
	}
	holdUntar(t, whole, "three files")
	for _, more := range []string{"\x00", "x", strings.Repeat("\x00", 512), string(whole)} {
		if files, e := archive.Untar(append(bytes.Clone(whole), more...)); e != api.ErrArcRest || files != nil {
			t.Errorf("P7.2: %d bytes behind the end: %d", len(more), e)
		}
	}
}

// P7.2: every byte of a ustar, turned into many others.
func TestUntarBytes(t *testing.T) {
	whole := three()
	for at, was := range whole {
		for _, b := range []byte{0, 1, ' ', '/', '0', '1', '7', '8', 'a', 'u', 0x7f, 0x80, 0xff, was ^ 1, was + 1, was ^ 0x80} {
			whole[at] = b
			holdUntar(t, whole, fmt.Sprintf("three files, the byte %d being %d", at, b))
		}
		whole[at] = was
	}
}

// P7.2: every byte of a header, turned into every other one, the sum being right.
func TestUntarHeaderBytes(t *testing.T) {
	for _, path := range []string{"ab/c.d", strings.Repeat("p", 101) + "/" + strings.Repeat("n", 98)} {
		whole := tarOf(blobs(path, "hi", "z", ""))
		first := bytes.Clone(whole[:512])
		for at := range 512 {
			for b := range 256 {
				whole[at] = byte(b)
				mendSum(whole)
				if at >= 148 && at < 156 {
					whole[at] = byte(b)
				}
				holdUntar(t, whole, fmt.Sprintf("a header whose byte %d is %d", at, b))
				copy(whole, first)
			}
		}
	}
}

// turn is a change of a right header, its sum being mended, with what Untar must answer then.
type turn struct {
	how func(p *parts)
	e   api.Errno
}

// holdTurns holds Untar of a ustar whose one header is turned.
func holdTurns(t *testing.T, turns []turn) {
	t.Helper()
	for i, c := range turns {
		p := usual("a", 1)
		c.how(&p)
		data := tarOf(blobs("a", "x"))
		copy(data, p.bytes())
		if _, e := archive.Untar(data); e != c.e {
			t.Errorf("P7.2: the header %d: %d, want %d", i, e, c.e)
		}
		holdUntar(t, data, fmt.Sprintf("the header %d", i))
	}
}

// P7.2: headers of names that may not be, or that are not cut as they must be.
func TestUntarNames(t *testing.T) {
	holdTurns(t, []turn{
		{func(p *parts) {}, api.OK},
		{func(p *parts) { p.name = "b" }, api.OK},
		{func(p *parts) { p.name = "" }, api.ErrArcHeader},
		{func(p *parts) { p.name = "/a" }, api.ErrArcHeader},
		{func(p *parts) { p.name = "a/" }, api.ErrArcHeader},
		{func(p *parts) { p.name = "./a" }, api.ErrArcHeader},
		{func(p *parts) { p.name = "a/../b" }, api.ErrArcHeader},
		{func(p *parts) { p.name = "a b" }, api.ErrArcHeader},
		{func(p *parts) { p.name = "a\x00b" }, api.ErrArcHeader},
		{func(p *parts) { p.name = "\x00b" }, api.ErrArcHeader},
		{func(p *parts) { p.name = strings.Repeat("n", 100) }, api.OK},
		{func(p *parts) { p.prefix = "x" }, api.ErrArcHeader},
		{func(p *parts) { p.prefix, p.name = "x", "" }, api.ErrArcHeader},
		{func(p *parts) { p.prefix, p.name = "x", strings.Repeat("n", 98) }, api.ErrArcHeader},
		{func(p *parts) { p.prefix, p.name = "x", strings.Repeat("n", 99) }, api.OK},
		{func(p *parts) { p.prefix, p.name = "x/y", strings.Repeat("n", 97) }, api.ErrArcHeader},
		{func(p *parts) { p.prefix, p.name = "x/y", strings.Repeat("n", 98) }, api.ErrArcHeader},
		{func(p *parts) { p.prefix, p.name = "x", "y/"+strings.Repeat("n", 98) }, api.OK},
		{func(p *parts) { p.prefix, p.name = strings.Repeat("p", 155), strings.Repeat("n", 100) }, api.OK},
		{func(p *parts) { p.prefix, p.name = strings.Repeat("p", 156), strings.Repeat("n", 100) }, api.ErrArcHeader},
		{func(p *parts) { p.prefix, p.name = "..", strings.Repeat("n", 99) }, api.ErrArcHeader},
		{func(p *parts) { p.prefix, p.name = "x/", strings.Repeat("n", 99) }, api.ErrArcHeader},
		{func(p *parts) { p.prefix, p.name = "x\x00y", strings.Repeat("n", 99) }, api.ErrArcHeader},
		{func(p *parts) { p.prefix, p.name = "\x00x", strings.Repeat("n", 99) }, api.ErrArcHeader},
	})
}

// P7.2: headers that other programs make, or that say the same in another way.
func TestUntarFields(t *testing.T) {
	sum := string(usual("a", 1).bytes()[148:156])
	holdTurns(t, []turn{
		{func(p *parts) { p.mode = "0000755\x00" }, api.ErrArcHeader},
		{func(p *parts) { p.mode = "000644 \x00" }, api.ErrArcHeader},
		{func(p *parts) { p.mode = "0100644\x00" }, api.ErrArcHeader},
		{func(p *parts) { p.owner = "0001750\x00" }, api.ErrArcHeader},
		{func(p *parts) { p.group = "" }, api.ErrArcHeader},
		{func(p *parts) { p.time = "14371573200\x00" }, api.ErrArcHeader},
		{func(p *parts) { p.kind = "" }, api.ErrArcHeader},
		{func(p *parts) { p.kind = "5" }, api.ErrArcHeader},
		{func(p *parts) { p.kind = "0link" }, api.ErrArcHeader},
		{func(p *parts) { p.magic = "" }, api.ErrArcHeader},
		{func(p *parts) { p.magic = "ustar  \x00" }, api.ErrArcHeader},
		{func(p *parts) { p.magic = "ustar\x0000root" }, api.ErrArcHeader},
		{func(p *parts) { p.magic = "ustar\x0000" + strings.Repeat("\x00", 64) + "0000000\x000000000\x00" }, api.ErrArcHeader},
		{func(p *parts) { p.rest = "x" }, api.ErrArcHeader},
		{func(p *parts) { p.sum = sum }, api.OK},
		{func(p *parts) { p.sum = sum[:6] + " \x00" }, api.ErrArcHeader},
		{func(p *parts) { p.sum = sum[1:7] + "\x00 " }, api.ErrArcHeader},
		{func(p *parts) { p.sum = sum[:6] + "\x00\x00" }, api.ErrArcHeader},
		{func(p *parts) { p.sum = " " + sum[1:] }, api.ErrArcHeader},
		{func(p *parts) { p.sum = "000000\x00 " }, api.ErrArcHeader},
	})
}

// P7.2: sizes that are not as they must be, too great, or more than is there; a header's other faults come first.
func TestUntarSizes(t *testing.T) {
	holdTurns(t, []turn{
		{func(p *parts) { p.size = "00000000001 " }, api.ErrArcHeader},
		{func(p *parts) { p.size = "          1\x00" }, api.ErrArcHeader},
		{func(p *parts) { p.size = "000000000001" }, api.ErrArcHeader},
		{func(p *parts) { p.size = "0000000001\x00" }, api.ErrArcHeader},
		{func(p *parts) { p.size = "1\x00" }, api.ErrArcHeader},
		{func(p *parts) { p.size = "" }, api.ErrArcHeader},
		{func(p *parts) { p.size = "00000000009\x00" }, api.ErrArcHeader},
		{func(p *parts) { p.size = "0000000000a\x00" }, api.ErrArcHeader},
		{func(p *parts) { p.size = "-0000000001\x00" }, api.ErrArcHeader},
		{func(p *parts) { p.size = "+0000000001\x00" }, api.ErrArcHeader},
		{func(p *parts) { p.size = "\x80\x00\x00\x00\x00\x00\x00\x00\x00\x00\x00\x01" }, api.ErrArcHeader},
		{func(p *parts) { p.size = "00000000000\x00" }, api.ErrArcHeader},
		{func(p *parts) { p.size = "00000000002\x00" }, api.OK},
		{func(p *parts) { p.size = "00000001777\x00" }, api.ErrArcShort},
		{func(p *parts) { p.size = "00004000000\x00" }, api.ErrArcShort},
		{func(p *parts) { p.size = "00004000001\x00" }, api.ErrArcSize},
		{func(p *parts) { p.size = "40000000001\x00" }, api.ErrArcSize},
		{func(p *parts) { p.size = "77777777777\x00" }, api.ErrArcSize},
		{func(p *parts) { p.size, p.mode = "77777777777\x00", "0000755\x00" }, api.ErrArcHeader},
		{func(p *parts) { p.size, p.name = "77777777777\x00", "/" }, api.ErrArcHeader},
		{func(p *parts) { p.size, p.kind = "00004000000\x00", "1" }, api.ErrArcHeader},
	})
}

// P7.2: the first thing that is wrong counts, from the front.
func TestUntarFirst(t *testing.T) {
	header, size, pad := usual("b", 1), usual("b", 1048577).bytes(), append(usual("b", 1).bytes(), "xy"...)
	header.mode = "0000755\x00"
	short, rest := usual("b", 100000).bytes(), make([]byte, 2000)
	filled := func(data []byte) []byte { return append(bytes.Clone(data), make([]byte, 512-len(data)%512)...) }
	wrong := []struct {
		data []byte
		e    api.Errno
	}{{header.bytes(), api.ErrArcHeader}, {size, api.ErrArcSize}, {filled(pad), api.ErrArcPad}, {short, api.ErrArcShort}, {rest, api.ErrArcRest}, {append(make([]byte, 512), filled([]byte{1})...), api.ErrArcPad}, {append(make([]byte, 1023), 1, 0), api.ErrArcPad}, {make([]byte, 700), api.ErrArcShort}}
	right := tarOf(blobs("a", "x"))[:1024]
	for i, c := range wrong {
		for j, behind := range append(wrong, struct {
			data []byte
			e    api.Errno
		}{}) {
			if c.e == api.ErrArcShort && len(behind.data) > 0 {
				continue // what stands behind is no longer too little
			}
			for _, ahead := range [][]byte{nil, right} {
				data := append(append(bytes.Clone(ahead), c.data...), behind.data...)
				if files, e := archive.Untar(data); e != c.e || files != nil {
					t.Errorf("P7.2: the wrong thing %d ahead of %d: %d, want %d", i, j, e, c.e)
				}
				holdUntar(t, data, fmt.Sprintf("the wrong thing %d ahead of %d", i, j))
			}
		}
	}
	cut := append(usual("b", 1).bytes(), "xy"...)
	if _, e := archive.Untar(cut); e != api.ErrArcShort {
		t.Errorf("P7.2: a filling that is cut off and wrong: %d", e)
	}
}
