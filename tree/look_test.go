package tree_test

import (
	"math/rand/v2"
	"strings"
	"testing"

	"larder/api"
	"larder/samples"
	"larder/store"
	"larder/tree"
)

// holdLook holds Look, Differ and Read over a disk against the oracle; none of them changes the store.
func holdLook(t *testing.T, d disk, files []api.File) api.Errno {
	t.Helper()
	s := d.store(1000)
	if got, e := tree.Look(s); e != api.OK || told(got) != told(d.lying()) {
		t.Errorf("P17.3: Look of %q = %v, %v, want %v", d, got, e, d.lying())
	}
	missing, changed, extra, e := tree.Differ(s, files)
	wantMissing, wantChanged, wantExtra, wantE := d.differ(files)
	if e != wantE || told(missing, changed, extra) != told(wantMissing, wantChanged, wantExtra) {
		t.Errorf("P17.3: Differ of %q, %v = %q, %q, %q, %v, want %q, %q, %q, %v", d, files, missing, changed, extra, e, wantMissing, wantChanged, wantExtra, wantE)
	}
	for _, f := range files {
		data, is, e := tree.Read(s, f)
		want, wantIs, wantE := d.read(f)
		if string(data) != string(want) || is != wantIs || e != wantE {
			t.Errorf("P17.4: Read of %q, %v = %q, %v, %v, want %q, %v, %v", d, f, data, is, e, want, wantIs, wantE)
		}
	}
	if seen(s) != d.String() || s.Calls() != 0 {
		t.Errorf("P17.3: what is read of %q is changed: %q, %d calls", d, seen(s), s.Calls())
	}
	return e
}

func TestLook(t *testing.T) {
	t.Parallel()
	long := strings.Repeat("a", 256)
	for _, c := range []struct{ disk, want string }{
		{"", ""},
		{"t/a=1", "a=1"},
		{"t/b= t/a=12", "a=12 b="},
		{"t/a/b=1 t/a=2 t/a!=3 t/ab=4", "a=2 a!=3 a/b=1 ab=4"},
		{"t/=1 t//a=1 t/a/=1 t/.=1 t/../a=1 t/a//b=1", ""},
		{"t/=1 t//a=1 t/a=2 t/a/./b=1 t/b=3", "a=2 b=3"},
		{"d/status=1 d/journal=2 n/0.0=3 n/t/a=3 a=4 t=5 u/a=6 T/a=7 tt/a=8 t/a=9", "a=9"},
		{"t/t/a=1 t/n/0.0=2", "n/0.0=2 t/a=1"},
		{"t/" + long + "=1", long + "=1"},
	} {
		if got, e := tree.Look(diskOf(c.disk).store(99)); e != api.OK || told(got) != told(filesOf(c.want)) {
			t.Errorf("P17.3: Look of %q = %v, %v, want %q", c.disk, got, e, c.want)
		}
		holdLook(t, diskOf(c.disk), filesOf(c.want))
		holdLook(t, diskOf(c.disk), nil)
	}
}

// P17.3: a file's bytes are those that are seen, durable or not.
func TestLookTellsWhatIsSeen(t *testing.T) {
	t.Parallel()
	s := diskOf("t/a=1 t/b=2").store(99)
	s.Write("t/a", []byte("new"))
	s.Append("t/a", []byte("er"))
	s.Remove("t/b")
	s.Write("n/0.0", []byte("3"))
	s.Rename("n/0.0", "t/c")
	if got, e := tree.Look(s); e != api.OK || told(got) != told(filesOf("a=newer c=3")) {
		t.Errorf("P17.3: Look = %v, %v", got, e)
	}
	s.Crash(api.Choice{})
	if got, e := tree.Look(s); e != api.OK || told(got) != told(filesOf("a=1 b=2")) {
		t.Errorf("P17.3: Look behind a crash = %v, %v", got, e)
	}
}

func TestDiffer(t *testing.T) {
	t.Parallel()
	for _, c := range []struct{ disk, files, missing, changed, extra string }{
		{"", "", "", "", ""},
		{"t/a=x t/q=1", "a=y b=1", "b", "a", "q"},
		{"t/a=x t/q=1 t//r=1 d/status=1 n/0.0=1", "b=1 a=y", "b", "a", "q"},
		{"t/a=1 t/b=2", "b=2 a=1", "", "", ""},
		{"t/a=1 t/b=2", "", "", "", "a b"},
		{"", "c= a=1 b=2", "a b c", "", ""},
		{"t/a=12 t/b=12 t/c=12", "c=1 b=21 a=12", "", "b c", ""}, // another size, another sum
		{"t/a= t/b=1", "a=1 b=", "", "a b", ""},
		{"t/b= t/d= t/f=", "a= c= e= g=", "a c e g", "", "b d f"},
		{"t/a= t/c= t/e= t/g=", "b= d= f=", "b d f", "", "a c e g"},
		{"t/a=1 t/a/b=2", "a/b=2", "", "", "a"},
		{"t/a=1 t/a!=2 t/a/b=3 t/ab=4", "ab=4 a/b= a!=2 a=1", "", "a/b", ""},
		{"t//r=1 t/a=1", "/r=1 a=1", "/r", "", ""}, // no path: not looked at, and nothing lies there
		{"t/=1 t/..=1", "=1 ..=1 a//b= n/0.0=", " .. a//b n/0.0", "", ""},
	} {
		missing, changed, extra, e := tree.Differ(diskOf(c.disk).store(99), filesOf(c.files))
		if e != api.OK || strings.Join(missing, " ") != c.missing || strings.Join(changed, " ") != c.changed || strings.Join(extra, " ") != c.extra {
			t.Errorf("P17.3: Differ of %q, %q = %q, %q, %q, %v, want %q, %q, %q", c.disk, c.files, missing, changed, extra, e, c.missing, c.changed, c.extra)
		}
		holdLook(t, diskOf(c.disk), filesOf(c.files))
	}
}

// P17.3: the size counts beside the sum, though no bytes have one sum and two sizes.
func TestDifferBySizeAlone(t *testing.T) {
	t.Parallel()
	d := diskOf("t/a=1 t/b=2")
	for _, size := range []int{0, 2, -1, 1 << 32, 1<<32 + 1} {
		files := filesOf("a=1 b=2")
		files[1].Size = size
		if missing, changed, extra, e := tree.Differ(d.store(9), files); e != api.OK || len(missing)+len(extra) > 0 || told(changed) != told([]string{"b"}) {
			t.Errorf("P17.3: Differ with the size %d = %q, %q, %q, %v", size, missing, changed, extra, e)
		}
		holdLook(t, d, files)
	}
}

// P17.3: two files of one path, whatever else they say, come first of all.
func TestDifferTwice(t *testing.T) {
	t.Parallel()
	for _, text := range []string{"a=1 a=1", "a=1 a=2", "a=1 b=2 a=1", "b= a= b=", "/=1 /=1", "=1 a=2 =3", "a b=1 ..= b=1"} {
		for _, s := range []*store.Store{nil, dead("t/a=1"), diskOf("t/a=1").store(99)} {
			if missing, changed, extra, e := tree.Differ(s, filesOf(text)); e != api.ErrTreeTwice || missing != nil || changed != nil || extra != nil {
				t.Errorf("P17.3: Differ of %q = %q, %q, %q, %v", text, missing, changed, extra, e)
			}
		}
	}
}

// P17.3, P17.4: stores that there are none, and without power; which error comes first.
func TestNoStore(t *testing.T) {
	t.Parallel()
	for _, c := range []struct {
		s    *store.Store
		want api.Errno
	}{{nil, api.ErrArg}, {dead("t/a=1"), api.ErrStoDead}, {dead(""), api.ErrStoDead}} {
		if files, e := tree.Look(c.s); e != c.want || files != nil {
			t.Errorf("P17.3: Look = %v, %v, want %v", files, e, c.want)
		}
		for _, text := range []string{"", "a=1", "a=2 b=1", "/="} {
			if missing, changed, extra, e := tree.Differ(c.s, filesOf(text)); e != c.want || missing != nil || changed != nil || extra != nil {
				t.Errorf("P17.3: Differ of %q = %q, %q, %q, %v, want %v", text, missing, changed, extra, e, c.want)
			}
		}
		for _, text := range []string{"a=1", "a=2", "b="} {
			if data, is, e := tree.Read(c.s, filesOf(text)[0]); e != c.want || data != nil || is {
				t.Errorf("P17.4: Read of %q = %q, %v, %v, want %v", text, data, is, e, c.want)
			}
		}
		want := c.want
		if c.s != nil {
			want = api.ErrTreePath
		}
		if data, is, e := tree.Read(c.s, file("/a", "")); e != want || data != nil || is {
			t.Errorf("P17.4: Read of no path = %q, %v, %v, want %v", data, is, e, want)
		}
	}
	var zero store.Store
	if files, e := tree.Look(&zero); e != api.OK || len(files) != 0 {
		t.Errorf("P17.3: Look of a zero store = %v, %v", files, e)
	}
}

func TestRead(t *testing.T) {
	t.Parallel()
	d := diskOf("t/a=1 t/b= t/c/d=123 t//e=1 n/0.0=1 d/status=1")
	other := file("c/d", "123")
	other.Sum[31] ^= 1
	longer := file("c/d", "123")
	longer.Size++
	for _, c := range []struct {
		f    api.File
		want string
		is   bool
		e    api.Errno
	}{
		{file("a", "1"), "1", true, api.OK},
		{file("b", ""), "", true, api.OK},
		{file("c/d", "123"), "123", true, api.OK},
		{file("a", "2"), "", false, api.OK},
		{file("a", ""), "", false, api.OK},
		{file("b", "1"), "", false, api.OK},
		{file("c/d", "12"), "", false, api.OK},
		{file("c/d", "1234"), "", false, api.OK},
		{other, "", false, api.OK},
		{longer, "", false, api.OK},
		{api.File{Path: "a"}, "", false, api.OK},
		{api.File{Path: "b"}, "", false, api.OK},
		{api.File{Path: "a", Size: -1}, "", false, api.OK},
		{file("c", ""), "", false, api.OK},
		{file("e", "1"), "", false, api.OK},
		{file("n/0.0", "1"), "", false, api.OK},
		{file("status", "1"), "", false, api.OK},
		{file("/e", "1"), "", false, api.ErrTreePath},
		{file("", ""), "", false, api.ErrTreePath},
		{file("../n/0.0", "1"), "", false, api.ErrTreePath},
		{file("../d/status", "1"), "", false, api.ErrTreePath},
		{file(strings.Repeat("a", 257), ""), "", false, api.ErrTreePath},
		{file(strings.Repeat("a", 256), ""), "", false, api.OK},
	} {
		s := d.store(99)
		if data, is, e := tree.Read(s, c.f); string(data) != c.want || is != c.is || e != c.e || !is && data != nil {
			t.Errorf("P17.4: Read(%v) = %q, %v, %v, want %q, %v, %v", c.f, data, is, e, c.want, c.is, c.e)
		}
		if s.Calls() != 0 || seen(s) != d.String() {
			t.Errorf("P17.4: Read(%v) changes the store", c.f)
		}
	}
}

// P17.3, P17.4: mixed disks held against mixed files.
func TestMixedLook(t *testing.T) {
	t.Parallel()
	r := rand.New(rand.NewPCG(17, 1))
	names := []string{"t/a", "t/b", "t/a/b", "t/a!", "t/ab", "t/c", "t//a", "t/", "t/..", "n/0.0", "d/status", "t/~"}
	paths := []string{"a", "b", "a/b", "a!", "ab", "c", "~", "/a", "", "..", "B"}
	datas := []string{"", "1", "2", "12", "21"}
	answered := map[api.Errno]int{}
	for range 20000 {
		d := disk{}
		for range r.IntN(7) {
			d[names[r.IntN(len(names))]] = datas[r.IntN(len(datas))]
		}
		var files []api.File
		for range r.IntN(5) {
			files = append(files, file(paths[r.IntN(len(paths))], datas[r.IntN(len(datas))]))
		}
		answered[holdLook(t, d, files)]++
	}
	if answered[api.OK] < 1000 || answered[api.ErrTreeTwice] < 1000 {
		t.Errorf("P17.3: so many answers: %v", answered)
	}
}

// P17.3: all small disks and files.
func TestSmallDiffer(t *testing.T) {
	t.Parallel()
	lists := samples.Lists(filesOf("a=1 a=2 b=1 c="), 3)
	for _, laid := range samples.Lists([]string{"t/a=1", "t/b=1", "t/b=2", "t/c=", "t//=", "u=1"}, 3) {
		d := diskOf(strings.Join(laid, " "))
		for _, files := range lists {
			holdLook(t, d, files)
		}
	}
}
