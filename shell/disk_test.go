package shell_test

import (
	"strings"
	"testing"

	"larder/api"
	"larder/shell"
)

// The store's calls, each with what it answers.
func TestDisk(t *testing.T) {
	scene(t, "P24.6", `
> calls
ok 0
> capacity 5
ok
> raw t/a 616263
ok
> raw t/b 616263
error 142
> raw t/a 6162636465
ok
> capacity 3
ok
> raw t/a 61626364
ok
> raw t/a 6162636465
error 142
> files
t/a 4
ok 1
> calls
ok 3
> capacity 0
ok
> raw t/b -
ok
> raw t/c 00
error 142
> files
t/a 4
t/b 0
ok 2
> sync
ok
> loss t/c
error 141
> loss t/a
ok
> loss t/a
error 141
> calls
ok 6
> capacity 1073741824
ok
> capacity 1073741825
error 1
> capacity 1152921504606846976
error 1
> raw t/c 00
ok
> crash
ok
> files
t/a 4
t/b 0
ok 2
> cat a
ok 61626364
> calls
ok 7
`)
}

// What a crash keeps: of the operations since the last sync, in their order, by the numbers of its line.
func TestCrash(t *testing.T) {
	const ahead = "raw t/a 616263\nsync\nraw t/a 3132333435\nloss t/b\nraw t/b 39\nloss t/a\nraw t/c 3738\n"
	for line, want := range map[string]string{
		"crash":                         "t/a 3",
		"crash 0 0 0 0":                 "t/a 3",
		"crash 1":                       "t/a 5",
		"crash 2":                       "t/a 0",
		"crash 5":                       "t/a 3",
		"crash 1152921504606846976":     "t/a 5",
		"crash 0 1":                     "t/a 3 t/b 1",
		"crash 1 1 1":                   "t/b 1",
		"crash 0 0 1":                   "",
		"crash 0 0 2":                   "t/a 3",
		"crash 0 0 0 3":                 "t/a 3 t/c 1",
		"crash 1 1 1 1":                 "t/b 1 t/c 2",
		"crash 0 0 0 1 1 1":             "t/a 3 t/c 2",
		"crash 4 0 0 1 1 1 2 3 4 5 6 7": "t/a 2 t/c 2",
		"reopen":                        "t/b 1 t/c 2",
	} {
		files := ""
		if want != "" {
			files = strings.NewReplacer(" t", "\nt").Replace(want) + "\n"
		}
		told, image := shell.Run(nil, room, ahead+line+"\nfiles")
		if want := "ok\nok\nok\nerror 141\nok\nok\nok\nok\n" + files + "ok "; !strings.HasPrefix(told, want) {
			t.Errorf("P24.6: %s tells %q, want %q", line, told, want)
		}
		if len(image) != strings.Count(want, "/") {
			t.Errorf("P24.6: %s leaves %s", line, seen(image))
		}
	}
}

// Who lays or takes a file that is not of the tree ends the installer, whether it can be done or not; one of the tree does not.
func TestTouched(t *testing.T) {
	const ahead = "make\nPackage: aa\nVersion: 1\n+x 6869\nend\napply +aa\n"
	long := strings.Repeat("a", 257)
	for _, c := range []struct {
		line, want string
		keeps      bool
	}{
		{"raw t/x 00", "ok", true},
		{"raw t/y -", "ok", true},
		{"raw t/ -", "ok", true},
		{"raw t/" + long, "error 240", true},
		{"raw t/" + long + " -", "error 140", true},
		{"loss t/x", "ok", true},
		{"loss t/y", "error 141", true},
		{"loss t/" + long, "error 140", true},
		{"raw t 00", "ok", false},
		{"raw T/x 00", "ok", false},
		{"raw x 00", "ok", false},
		{"raw at/x 00", "ok", false},
		{"raw /t/x 00", "ok", false},
		{"raw d/status.new 00", "ok", false},
		{"raw n/2.0 -", "ok", false},
		{"raw " + long + "aa -", "error 140", false},
		{"raw d/status 0", "error 240", true},
		{"loss d/status", "error 141", false},
		{"loss d/journal", "ok", false},
		{"loss t", "error 141", false},
		{"loss n/1.0", "error 141", false},
		{"loss " + long + "aa", "error 140", false},
		{"capacity 0\nraw zz 00", "ok\nerror 142", false},
		{"capacity 0\nraw t/zz 00", "ok\nerror 142", true},
		{"fuse 0\nraw zz 00", "ok\nerror 143", false},
		{"fuse 0\nraw t/zz 00", "ok\nerror 143", true},
		{"fuse 0\nloss t/x\nloss zz", "ok\nerror 143\nerror 143", false},
	} {
		want, again := "ok 0\n", "ok 0\n"
		if c.keeps {
			want = "aa=1 manual\nok 1\n"
		}
		if !strings.Contains(c.line, "loss d/journal") {
			again = "aa=1 manual\nok 1\n"
		}
		got := tells(ahead + c.line + "\nlist")
		if got != "ok aa=1\nok 1 of 1\n"+c.want+"\n"+want {
			t.Errorf("P24.6: behind %.80q list tells %q", c.line, got)
		}
		for _, back := range []string{"crash 1 1", "fuse 99\nreopen"} {
			if back != "crash 1 1" && strings.Contains(c.line, "fuse") {
				continue
			}
			got := tells(ahead + c.line + "\n" + back + "\nlist")
			if !strings.HasSuffix(got, "ok\n"+again) {
				t.Errorf("P24.6: behind %.80q and %q list tells %q", c.line, back, got)
			}
		}
	}
}

// A store without power: what is asked of it, and what is changed.
func TestWithoutPower(t *testing.T) {
	image := scene(t, "P24.6", `
@ aa 1; +x 6869
> apply +aa
ok 1 of 1
> raw t/y 00
ok
> fuse 1
ok
> fuse 0
ok
> loss t/none
error 141
> calls
ok 7
> loss t/x
error 143
> files
d/journal 274
t/x 2
t/y 1
ok 3
> calls
ok 7
> fuse 5
ok
> sync
error 143
> raw t/z 00
error 143
> loss t/none
error 143
> capacity 7
ok
> capacity 1073741825
error 1
> list
aa=1 manual
ok 1
> owner x
ok aa=1
> seq
ok 1
> history
1 1 +aa=1
ok 1
> why aa
aa=1
ok 1
> orphans
ok 0
> blame -aa
ok 1 0
> plan -aa
batch -aa=1
ok 0 of 1
> paths
ok 0
> cat x
error 143
> audit
error 143
> repair
error 143
> mark aa auto
error 143
> apply
power 0 of 0
> sweep
power 0 of 0
> undo
power 0 of 0
> reopen
error 143
> list
ok 0
> plan
none
> files
d/journal 274
t/x 2
t/y 1
ok 3
`)
	if got := seen(image); !strings.HasSuffix(got, `t/x:"hi" t/y:"\x00" `) {
		t.Errorf("P24.2: the image of a store without power is %s", got)
	}
	scene(t, "P24.6", `
@ aa 1; +x 6869
> fuse 0
ok
> capacity 9999
ok
> apply +aa
power 0 of 1
> capacity 1048576
ok
> crash 4
ok
> files
ok 0
> fuse 3
ok
> raw t/a 00
ok
> sync
ok
> raw t/a 0001
ok
> crash
ok
> raw t/b 00
ok
> raw t/c 00
ok
> raw t/d 00
ok
> raw t/e 00
ok
> files
t/a 1
t/b 1
t/c 1
t/d 1
t/e 1
ok 5
`)
}

// A power that goes while an Open recovers: there is no installer, and the next crash brings one.
func TestOpensThatDie(t *testing.T) {
	scene(t, "P24.6", `
@ aa 1; +x 6869; +y 6869
> fuse 4
ok
> apply +aa
power 0 of 1
> crash
ok
> seq
ok 0
> files
ok 0
> fuse 5
ok
> apply +aa
power 0 of 1
> crash
ok
> seq
ok 1
> audit
ok 0
> apply -aa
ok 1 of 1
> fuse 3
ok
> undo
power 0 of 1
> crash 5
ok
> list
ok 0
> raw n/9.0 00
ok
> raw n/9.1 00
ok
> fuse 1
ok
> reopen
error 143
> list
ok 0
> apply +aa
none
> crash 1 1 1
ok
> audit
ok 0
> apply +aa
ok 1 of 1
> paths
x
y
ok 2
`)
}

// The files of a store are told by rising names, all of them.
func TestFiles(t *testing.T) {
	image := []api.Blob{{Name: "!", Data: make([]byte, 12345)}, {Name: "d/journal"}, {Name: "t/B", Data: []byte("1")}, {Name: "t/a"}, {Name: "~"}}
	got, behind := shell.Run(image, 0, "files\ncalls\nsync\ncalls\nraw t/0 -\nfiles")
	want := "! 12345\nd/journal 0\nt/B 1\nt/a 0\n~ 0\nok 5\nok 0\nok\nok 1\nok\n! 12345\nd/journal 0\nt/0 0\nt/B 1\nt/a 0\n~ 0\nok 6\n"
	if got != want || len(behind) != 6 {
		t.Errorf("P24.6: files tell %q", got)
	}
}
