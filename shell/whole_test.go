package shell_test

import (
	"fmt"
	"math/rand/v2"
	"regexp"
	"slices"
	"strings"
	"testing"

	"larder/api"
	"larder/shell"
)

// cuts tells the beginnings of a script that end ahead of a newline, or behind all, and not within a block.
func cuts(script string) []string {
	var list []string
	within := false
	end := -1
	for line := range strings.SplitSeq(script, "\n") {
		word := strings.Trim(line, " ")
		if within {
			within = line != "end"
		} else {
			within = word == "index" || word == "make"
		}
		end += 1 + len(line)
		if !within {
			list = append(list, script[:end])
		}
	}
	return list
}

func TestCuts(t *testing.T) {
	for script, want := range map[string][]string{
		"":                          {""},
		"a\nb":                      {"a", "a\nb"},
		"a\n":                       {"a", "a\n"},
		"index\nend \nend\nb":       {"index\nend \nend", "index\nend \nend\nb"},
		"a\n make  \nmake\n\nend\n": {"a", "a\n make  \nmake\n\nend", "a\n make  \nmake\n\nend\n"},
		"make":                      nil,
	} {
		if got := cuts(script); fmt.Sprint(len(got), got) != fmt.Sprint(len(want), want) {
			t.Errorf("cuts of %q = %q", script, got)
		}
	}
}

// P24.7: what is told of a script begins with what is told of each of its beginnings.
func TestBeginnings(t *testing.T) {
	t.Parallel()
	for seed := range uint64(100) {
		script := mixedScript(rand.New(rand.NewPCG(seed, 247)))
		whole := tells(script)
		last := ""
		for _, cut := range cuts(script) {
			told := tells(cut)
			if !strings.HasPrefix(whole, told) || !strings.HasPrefix(told, last) {
				t.Fatalf("P24.7: seed %d: of\n%s\nis told\n%s\nand of its beginning\n%s\nthis\n%s", seed, script, whole, cut, told)
			}
			last = told
		}
	}
}

// A script in two halves: what the first leaves is what the second begins with, if nothing is pending between them and it says again what goes on.
func TestHalves(t *testing.T) {
	t.Parallel()
	const shelf = "make\nPackage: aa\nVersion: 1\n+x 31\nend\nmake\nPackage: bb\nVersion: 1\nDepends: aa\n+y 32\nend\nmake\nPackage: aa\nVersion: 2\n+x 33\n+z -\nend\n"
	steps := []string{"apply +bb +aa<<2", "mark aa auto", "apply ^", "undo", "raw t/y 00\nsync", "repair", "apply -bb", "sweep", "undo", "apply -aa", "undo\nundo", "loss t/x\nsync\naudit", "repair\naudit", "undo", "capacity 65600\napply -bb", "undo", "capacity 1048576\nundo", "history\nlist\nfiles\nseq\npaths\naudit"}
	whole, end := shell.Run(nil, room, shelf+strings.Join(steps, "\n"))
	whole = strings.TrimPrefix(whole, tells(shelf))
	for i := range steps {
		first, image := shell.Run(nil, room, shelf+strings.Join(steps[:i], "\n"))
		capacity := ""
		if i >= 15 && i <= 16 {
			capacity = "capacity 65600\n"
		}
		second, behind := shell.Run(image, room, shelf+capacity+strings.Join(steps[i:], "\n"))
		got := strings.TrimPrefix(first, tells(shelf)) + strings.TrimPrefix(second, tells(shelf+capacity))
		if got != whole || seen(behind) != seen(end) {
			t.Errorf("P24.2: in two halves, the second from %q on: \n%s\nin one\n%s", steps[i], got, whole)
		}
	}
}

// lifeLine tells a line of a life in which nobody else writes into the store.
func lifeLine(r *rand.Rand) []string {
	switch r.IntN(12) {
	case 0, 1:
		return mixedMake(r, mixedName(r))
	case 2, 3, 4:
		return []string{"apply" + mixedWishes(r)}
	case 5:
		return []string{pick(r, "sweep", "undo", "undo", "mark "+mixedName(r)+" auto", "mark "+mixedName(r)+" manual", "repair")}
	case 6:
		return []string{"fuse " + fmt.Sprint(r.IntN(14))}
	case 7:
		return []string{"crash" + mixedKept(r)}
	case 8:
		return []string{"crash" + mixedKept(r), "fuse " + fmt.Sprint(r.IntN(4)), "reopen", "crash" + mixedKept(r)}
	case 9:
		return []string{"capacity " + pick(r, "0", "65536", "66500", "70000", "1048576")}
	case 10:
		return []string{pick(r, "hold ", "free ") + mixedName(r), "forget"}
	}
	return []string{"sync", "reopen"}
}

// mark is a line that tells just that it is none, so that what lines tell can be parted by it.
const mark = "\n-\n"

// parted plays a script, and tells what is told behind its marks.
func parted(script string) []string { return strings.Split(tells(script), "error 240\n") }

// P0.2, P0.5, P0.6, P23.12: behind each line of lives, whatever the power does, the tree is just that of what is installed and nothing is staged, and another reopen changes nothing.
func TestLives(t *testing.T) {
	t.Parallel()
	const state = "list\nhistory\nseq\nfiles\ncalls"
	const looking = mark + "audit" + mark + state + mark + "reopen" + mark + state
	staged := regexp.MustCompile(`(?m)^n/|^d/status\.new`)
	counts := map[string]int{}
	for seed := range uint64(250) {
		r := rand.New(rand.NewPCG(seed, 5))
		var lines []string
		for _, name := range []string{"aa", "bb", "cc", "dd"} {
			lines = append(lines, making(name+" 1; +"+name+" 6869")...)
		}
		for range 12 {
			lines = append(lines, lifeLine(r)...)
			if lines[len(lines)-1] == "end " || lines[len(lines)-1] == "#" {
				lines = append(lines, "end")
			}
			script := strings.Join(lines, "\n")
			parts := parted(script + looking)
			parts = parts[len(parts)-4:]
			counts[parts[0]]++
			if parts[0] == "error 143\n" || parts[0] == "error 1\n" {
				continue
			}
			if parts[0] != "ok 0\n" || staged.MatchString(parts[1]) {
				t.Fatalf("P0.2: seed %d: behind\n%s\nis told\n%s", seed, script, parts[:2])
			}
			if parts[2] != "ok\n" || parts[3] != parts[1] {
				t.Fatalf("P0.6: seed %d: behind\n%s\nand a reopen is told\n%s\nand it was\n%s", seed, script, parts[2:], parts[1])
			}
		}
	}
	if counts["ok 0\n"] < 2000 || counts["error 143\n"] < 15 || counts["error 1\n"] < 15 {
		t.Errorf("audit tells %v", counts)
	}
}

// P0.5: a change of three batches whose power fails at each call, whatever the crash keeps of what is pending then: what is installed is what was so behind one of them.
func TestFuses(t *testing.T) {
	t.Parallel()
	const ahead = "make\nPackage: lib\nVersion: 1\n+l 31\nend\nmake\nPackage: pp\nVersion: 1\nDepends: lib (= 1)\n+p 31\n+q 31\nend\napply +pp\nmake\nPackage: pp\nVersion: 2\nPre-Depends: lib (>= 2)\n+p 32\nend\nmake\nPackage: lib\nVersion: 2\n+l 32\n+k -\nend"
	states := []string{"lib=1 auto\npp=1 manual\nok 2\nl\np\nq\nok 3\n", "ok 0\nok 0\n", "lib=2 auto\nok 1\nk\nl\nok 2\n", "lib=2 auto\npp=2 manual\nok 2\nk\nl\np\nok 3\n"}
	reached := map[int]int{}
	for fuse := 0; ; fuse++ {
		struck := fmt.Sprintf("%s\nfuse %d%sapply +pp>=2", ahead, fuse, mark)
		told := parted(struck)[1]
		if told == "ok 3 of 3\n" {
			if fuse != 7+8+6 {
				t.Errorf("P0.5: %d calls", fuse)
			}
			break
		}
		var done int
		if _, e := fmt.Sscanf(told, "power %d of 3\n", &done); e != nil {
			t.Fatalf("P0.5: behind fuse %d apply tells %s", fuse, told)
		}
		for choice := range 81 {
			kept := ""
			for n, place := choice, 0; place < 4; n, place = n/3, place+1 {
				kept += fmt.Sprint(" ", []int{0, 1, 4}[n%3])
			}
			parts := parted(struck + "\ncrash" + kept + mark + "list\npaths" + mark + "audit" + mark + "undo" + mark + "list\npaths")[2:]
			place := slices.Index(states, parts[0])
			if place < done || place < 0 || parts[1] != "ok 0\n" {
				t.Fatalf("P0.5: behind fuse %d and crash%s: %q", fuse, kept, parts)
			}
			reached[place]++
			if place > 0 && parts[3] != states[0] {
				t.Fatalf("P0.15: behind fuse %d, crash%s and undo: %q", fuse, kept, parts)
			}
		}
	}
	if len(reached) != 4 {
		t.Errorf("P0.5: %v", reached)
	}
}

// Of the ten examples of the whole those that a script can tell, as far as other tests don't have them.
func TestExamplesOfTheWhole(t *testing.T) {
	scene(t, "2", `
@ aa 1.0~rc1
@ aa 1.0
@ aa 1.00
@ aa 2
@ aa 1:0.1
> plan +aa
batch +aa=1:0.1
ok 0 of 1
> plan +aa<<1.0
batch +aa=1.0~rc1
ok 0 of 1
> apply +aa=1.0
ok 1 of 1
> pin aa>>1.0 10
ok
> plan ^
ok 0 of 0
> plan +aa=1.00
ok 0 of 0
`)
	scene(t, "4", `
@ aa 1; Depends: bb
@ bb 1; Depends: aa
> plan +aa
batch +aa=1 +bb=1
ok 0 of 1
@ cc 1; Depends: dd
@ dd 1; Pre-Depends: cc
> apply +cc
cycle
> apply +dd
cycle
> apply +bb
ok 1 of 1
`)
	scene(t, "5", `
@ app 1; Depends: lib; +a 31
@ lib 1; +l 31
> apply +app
ok 2 of 2
@ lib 2; +l 32
> plan ^
batch -lib=1 +lib=2
ok 0 of 1
> calls
ok 12
> apply ^
ok 1 of 1
> calls
ok 18
> list
app=1 manual
lib=2 auto
ok 2
`)
	scene(t, "6", `
@ aa 1; Depends: xx | yy
@ xx 1
@ yy 1
> apply +aa +xx
ok 2 of 2
> plan -xx +yy
batch +yy=1
batch -xx=1
ok 0 of 2
> apply -xx +yy
ok 2 of 2
> list
aa=1 manual
yy=1 manual
ok 2
`)
	scene(t, "8", `
@ aa 1; +x 6869
> fuse 4
ok
> apply +aa
power 0 of 1
> crash
ok
> cat x
ok 6869
> list
aa=1 manual
ok 1
`)
	scene(t, "9", `
@ aa 1; +x `+strings.Repeat("61", 200)+`
@ bb 1; +y 6869
> apply +bb
ok 1 of 1
> files
d/journal 274
t/y 2
ok 2
> capacity 376
ok
> apply +aa
full 0 of 1
> apply -bb
ok 1 of 1
`)
	scene(t, "10", `
@ aa 1
> apply +aa -aa
refused 102
> index
> 
> Package: bb
> junk
> end
ok
> apply +aa -aa
malformed 8 31
`)
}

// The seventh: a frame torn at any byte.
func TestTornFrames(t *testing.T) {
	t.Parallel()
	const ahead = "make\nPackage: aa\nVersion: 1\n+x 6869\nend\napply +aa\n"
	_, image := shell.Run(nil, room, ahead+"apply -aa\nundo")
	var whole []byte
	for _, b := range image {
		if b.Name == "d/journal" {
			whole = b.Data
		}
	}
	ends := map[int]string{0: "ok 0\nok 0\n", 274: "aa=1 manual\nok 1\nok 1\n", len(whole) - 274: "ok 0\nok 2\n"}
	want := ""
	for n := range whole {
		if state, is := ends[n]; is {
			want = state
		}
		tree := []api.Blob{{Name: "d/journal", Data: whole[:n]}}
		if strings.HasPrefix(want, "aa") {
			tree = append(tree, api.Blob{Name: "t/x", Data: []byte("hi")})
		}
		if got, _ := shell.Run(tree, room, "list\nseq\naudit\n"); got != want+"ok 0\n" {
			t.Fatalf("torn behind %d bytes of %d: %q, want %q", n, len(whole), got, want)
		}
	}
}
