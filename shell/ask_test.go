package shell_test

import (
	"fmt"
	"slices"
	"strings"
	"testing"

	"larder/api"
	"larder/samples"
	"larder/shell"
)

// Over an empty store everything is empty.
func TestAskingOfNothing(t *testing.T) {
	image := scene(t, "P24.5", `
> list
ok 0
> paths
ok 0
> cat x
error 231
> cat ..
error 231
> owner x
ok none
> orphans
ok 0
> history
ok 0
> seq
ok 0
> why aa
error 200
> blame
ok 1 0
> blame +aa
ok 2 1
> audit
ok 0
> repair
ok 0
> mark aa manual
error 230
> mark aa auto
error 230
> mark aa x
error 240
> files
ok 0
> calls
ok 0
`)
	if len(image) > 0 {
		t.Errorf("P23.11: asking leaves %s", seen(image))
	}
}

func TestAsking(t *testing.T) {
	scene(t, "P24.5", `
@ aa 1.0; +usr/x 6869; +usr/y -; Depends: bb | cc, dd
@ bb 2-1; +z 00
@ dd 1:1~a; Provides: mail
@ ee 1; Depends: aa
> apply +ee
ok 4 of 4
> list
aa=1.0 auto
bb=2-1 auto
dd=1:1~a auto
ee=1 manual
ok 4
> paths
usr/x
usr/y
z
ok 3
> cat usr/x
ok 6869
> cat usr/y
ok -
> cat z
ok 00
> cat usr
error 231
> cat t/z
error 231
> cat Z
error 231
> owner usr/y
ok aa=1.0
> owner z
ok bb=2-1
> owner t/z
ok none
> owner aa
ok none
> seq
ok 4
> history
1 1 +bb=2-1
2 1 +dd=1:1~a
3 1 +aa=1.0
4 1 +ee=1
ok 4
> why bb
ee=1
aa=1.0
bb=2-1
ok 3
> why dd
ee=1
aa=1.0
dd=1:1~a
ok 3
> why ee
ee=1
ok 1
> why mail
error 200
> why EE
error 200
> orphans
ok 0
> mark ee auto
ok
> mark ee auto
ok
> why ee
ok 0
> why bb
ok 0
> orphans
aa=1.0
bb=2-1
dd=1:1~a
ee=1
ok 4
> hold aa
ok
> orphans
ee=1
ok 1
> mark dd manual
ok
> list
aa=1.0 auto
bb=2-1 auto
dd=1:1~a manual
ee=1 auto
ok 4
> free aa
ok
> orphans
aa=1.0
bb=2-1
ee=1
ok 3
> seq
ok 6
> history
1 1 +bb=2-1
2 1 +dd=1:1~a
3 1 +aa=1.0
4 1 +ee=1
5 1
6 1
ok 6
> mark dd Manual
error 240
> mark Dd manual
error 230
> mark dd
error 240
> sweep
ok 3 of 3
> list
dd=1:1~a manual
ok 1
> history
1 1 +bb=2-1
2 1 +dd=1:1~a
3 1 +aa=1.0
4 1 +ee=1
5 1
6 1
7 7 -ee=1
8 7 -aa=1.0
9 7 -bb=2-1
ok 9
`)
}

func TestBlame(t *testing.T) {
	scene(t, "P24.5", `
@ aa 1; Depends: bb (>= 2)
@ bb 1
> blame +aa
ok 2 2
> blame +bb
ok 1 0
> blame ^ +bb -aa
ok 1 0
> blame +bb -bb
error 102
> blame +AA
error 100
> blame -bb<<<
error 101
> apply +bb
ok 1 of 1
> hold bb
ok
> blame -bb
ok 2 2
> free bb
ok
> blame -bb
ok 1 0
> budget 1
ok
> blame +aa
ok 3 0
> budget 0
ok
> blame +bb
ok 3 0
> index
> junk
> end
ok
> blame +bb
error 31
> index
> Package
> end
ok
> blame aa
error 240
> forget
ok
> blame
ok 1 0
> budget 10
ok
> blame +cc +dd
ok 2 1
`)
}

// Trees that somebody has spoilt: each kind of what is wrong, and what is left of it.
func TestAuditAndRepair(t *testing.T) {
	scene(t, "P24.5", `
@ aa 1; +w 77; +x 6869; +y -; +z 7a
@ bb 1; +b 62
> apply +aa +bb
ok 2 of 2
> audit
ok 0
> repair
ok 0
> loss t/w
ok
> raw t/x 6868
ok
> raw t/y 00
ok
> raw t/b -
ok
> raw t/ -
ok
> raw t/stray/ 00
ok
> audit
1 w aa=1
3 x aa=1
2 y aa=1
2 b bb=1
4 
4 stray/
ok 6
> paths
b
x
y
z
ok 4
> cat y
ok 00
> cat w
error 231
> owner w
ok aa=1
> repair
4 
4 stray/
ok 2
> cat w
ok 77
> cat x
ok 6869
> audit
4 
4 stray/
ok 2
> raw d/other 00
ok
> raw n/7.0 00
ok
> raw n/odd 00
ok
> raw zz 00
ok
> reopen
ok
> audit
4 
4 stray/
6 d/other
6 zz
ok 4
> loss t/x
ok
> forget
ok
> repair
1 x aa=1
4 
4 stray/
6 d/other
6 zz
ok 5
@ aa 1; +w 77; +x 6869; +y -; +z 7b
> repair
1 x aa=1
4 
4 stray/
6 d/other
6 zz
ok 5
> forget
ok
@ aa 1; +w 77; +x 6869; +y -; +z 7a
> capacity 0
ok
> repair
error 182
> cat x
error 231
> capacity 1048576
ok
> fuse 3
ok
> repair
error 143
> audit
error 143
> repair
error 143
> cat z
error 143
> paths
ok 0
> list
aa=1 manual
bb=1 manual
ok 2
> mark aa auto
error 143
> crash 1
ok
> audit
4 
4 stray/
6 d/other
6 zz
ok 4
`)
}

// Without an installer each asking asks the one that is none, and a request has no answer; what is no command is none.
func TestWithoutAnInstaller(t *testing.T) {
	scene(t, "P24.2", `
@ aa 1; +x 6869
> apply +aa
ok 1 of 1
> raw d/status 00
ok
> list
ok 0
> paths
ok 0
> cat x
error 1
> owner x
ok none
> orphans
ok 0
> history
ok 0
> seq
ok 0
> why aa
error 1
> blame +aa
error 1
> blame
error 1
> audit
error 1
> repair
error 1
> mark aa manual
error 1
> mark aa auto
error 1
> mark aa x
error 240
> apply +aa
none
> apply
none
> plan +aa
none
> plan
none
> sweep
none
> undo
none
> index
> junk
> end
ok
> apply +aa
none
> blame +aa
error 1
> forget
ok
@ bb 1
> hold aa
ok
> free aa
ok
> pin aa 1
ok
> unpin
ok
> budget 5
ok
> reopen
error 165
> list
ok 0
> apply
none
> crash 1
error 165
> list
ok 0
> raw t/y 00
ok
> sync
ok
> files
d/journal 274
d/status 1
t/x 2
t/y 1
ok 4
> calls
ok 9
> capacity 5
ok
> fuse 0
ok
> loss t/y
error 143
> reopen
error 143
> apply
none
> crash
error 165
> loss d/status
ok
> list
ok 0
> reopen
ok
> list
aa=1 manual
ok 1
`)
}

// A store whose files front.Open refuses: that is the first line, and then there is no installer till one can be made.
func TestOpenRefused(t *testing.T) {
	image := []api.Blob{{Name: "d/status", Data: []byte("x")}, {Name: "n/1.0"}, {Name: "t/x", Data: []byte("hi")}}
	for script, want := range map[string]string{
		"":                                    "",
		"\n":                                  "",
		"# a note":                            "",
		"list\napply\ncat x":                  "ok 0\nnone\nerror 1\n",
		"bogus\nindex":                        "error 240\nerror 241\n",
		"reopen\nplan":                        "error 165\nnone\n",
		"crash\nplan":                         "error 165\nnone\n",
		"crash 1 1 2\nfiles":                  "error 165\nd/status 1\nn/1.0 0\nt/x 2\nok 3\n",
		"loss d/status\ncat x":                "ok\nerror 1\n",
		"loss d/status\nsync\nplan":           "ok\nok\nnone\n",
		"loss d/status\nreopen\nplan":         "ok\nok\nok 0 of 0\n",
		"loss d/status\nreopen\ncat x\nfiles": "ok\nok\nok 6869\nt/x 2\nok 1\n",
		"loss d/status\ncrash\nplan":          "ok\nerror 165\nnone\n",
		"loss d/status\ncrash 1\nplan":        "ok\nok\nok 0 of 0\n",
	} {
		if got, _ := shell.Run(image, room, script); got != "error 165\n"+want {
			t.Errorf("P24.2: over an odd checkpoint %q tells %q, want %q", script, got, want)
		}
	}
	if _, behind := shell.Run(image, room, "list\napply"); seen(behind) != seen(image) {
		t.Errorf("P24.2: an Open that is refused leaves %s", seen(behind))
	}
}

// Store.Load's refusals: its number alone is told, whatever the script, and the image is answered as it was handed in.
func TestLoadRefused(t *testing.T) {
	for _, c := range []struct {
		image    []api.Blob
		capacity int
		want     string
	}{
		{nil, -1, "error 1\n"},
		{nil, api.MaxCapacity + 1, "error 1\n"},
		{[]api.Blob{{Name: "b", Data: []byte("1")}, {Name: "a", Data: []byte("2")}}, room, "error 144\n"},
		{[]api.Blob{{Name: "a"}, {Name: "a"}}, room, "error 144\n"},
		{[]api.Blob{{Name: ""}}, room, "error 144\n"},
		{[]api.Blob{{Name: "a b"}}, room, "error 144\n"},
		{[]api.Blob{{Name: strings.Repeat("a", 259)}}, room, "error 144\n"},
		{[]api.Blob{{Name: "b"}, {Name: "a"}}, -1, "error 1\n"},
	} {
		for _, script := range []string{"", "list", "bogus", "index", "crash\nreopen\nlist"} {
			got, behind := shell.Run(c.image, c.capacity, script)
			if got != c.want || seen(behind) != seen(c.image) {
				t.Errorf("P24.2: Run(%s, %d, %q) = %q, %s", seen(c.image), c.capacity, script, got, seen(behind))
			}
		}
	}
	for _, capacity := range []int{0, 1, api.MaxCapacity} {
		image := []api.Blob{{Name: strings.Repeat("a", 258), Data: []byte("12")}}
		if got, behind := shell.Run(image, capacity, "list"); got != "ok 0\n" || seen(behind) != seen(image) {
			t.Errorf("P24.2: with the capacity %d: %q, %s", capacity, got, seen(behind))
		}
	}
}

// An image is what is handed in, and what is answered another one.
func TestImagesApart(t *testing.T) {
	for _, c := range []struct {
		what, script string
		image        []api.Blob
		capacity     int
	}{
		{"an image", "raw t/a 00\nloss t/b\nraw t/d 31", []api.Blob{{Name: "t/a", Data: []byte("12")}, {Name: "t/b", Data: []byte("34")}, {Name: "t/c", Data: []byte("56")}, {Name: "t/e"}}, room},
		{"an image over which nothing is done", "", []api.Blob{{Name: "t/a", Data: []byte("12")}, {Name: "t/b"}}, room},
		{"none", "list", []api.Blob{{Name: "b", Data: []byte("12")}, {Name: "a", Data: []byte("34")}}, room},
		{"no capacity", "list", []api.Blob{{Name: "a", Data: []byte("12")}}, -1},
	} {
		image := samples.RoomyBlobs(c.image)
		extent := seen(samples.ExtentOfBlobs(image))
		told, behind := shell.Run(image, c.capacity, c.script)
		if seen(samples.ExtentOfBlobs(image)) != extent {
			t.Errorf("%s: Run writes into what it was handed", c.what)
		}
		want := seen(behind)
		var lists [][]byte
		for _, b := range slices.Concat(image, behind) {
			lists = append(lists, b.Data)
		}
		if !samples.Apart(image, behind) || !samples.Apart(lists...) {
			t.Errorf("%s: what is answered shares memory with what was handed in", c.what)
		}
		samples.SpoilBlobs(image)
		if seen(behind) != want {
			t.Errorf("%s: what is answered changes with what was handed in", c.what)
		}
		samples.SpoilBlobs(behind)
		again, then := shell.Run(samples.RoomyBlobs(c.image), c.capacity, c.script)
		if again != told || seen(then) != want {
			t.Errorf("%s: the same again tells %q and leaves %s", c.what, again, seen(then))
		}
	}
}

// A history has so many commits at most; the last one's number goes on. A checkpoint changes nothing that is told.
func TestLongHistory(t *testing.T) {
	const turns = 150
	script := strings.Join(making("aa 1; +x 6869"), "\n") + "\napply +aa\n" + strings.Repeat("mark aa auto\nmark aa manual\n", turns) + "apply -aa\n"
	told := strings.TrimPrefix(tells(script+"seq\nhistory\nfiles\nreopen\nseq\nhistory"), tells(script))
	var history strings.Builder
	const seq = 1 + 2*turns + 1
	for i := seq - api.MaxPast + 1; i < seq; i++ {
		fmt.Fprintf(&history, "%d 1\n", i)
	}
	fmt.Fprintf(&history, "%d %d -aa=1\nok %d\n", seq, seq, api.MaxPast)
	asked := fmt.Sprintf("ok %d\n%s", seq, history.String())
	if !strings.HasPrefix(told, asked+"d/journal ") || !strings.HasSuffix(told, "\nok 2\nok\n"+asked) || !strings.Contains(told, "\nd/status ") {
		t.Errorf("P24.5: behind so many commits is told\n%s", told)
	}
}
