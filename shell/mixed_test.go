package shell_test

import (
	"fmt"
	"math/rand/v2"
	"regexp"
	"slices"
	"strings"
	"testing"

	"larder/api"
	"larder/shell"
)

// pick tells one of some things.
func pick[T any](r *rand.Rand, things ...T) T { return things[r.IntN(len(things))] }

func mixedName(r *rand.Rand) string { return pick(r, "aa", "bb", "cc", "dd") }

// mixedAtom tells an atom, once in a while one that the layers refuse, or none.
func mixedAtom(r *rand.Rand) string {
	name := pick(r, mixedName(r), mixedName(r), mixedName(r), "vv", "zz")
	if r.IntN(60) == 0 {
		return pick(r, "AA", "", "aa=", "=1", "aa<1", "aa=1=2", "aa==1", "*", "a")
	}
	return name + pick(r, "", "", "", "", "=1", ">=2", "<<3", "<=2", ">>1")
}

func mixedWish(r *rand.Rand) string {
	if r.IntN(100) == 0 {
		return pick(r, "^^", "+", "-", "aa", "~aa")
	}
	return pick(r, "+", "+", "+", "-") + mixedAtom(r)
}

func mixedWishes(r *rand.Rand) string {
	line := ""
	for range r.IntN(4) {
		line += " " + mixedWish(r)
	}
	if r.IntN(5) == 0 {
		line += " ^"
	}
	return line
}

func mixedData(r *rand.Rand) string {
	return pick(r, "-", "00", "6869", strings.Repeat("ab", r.IntN(200)), "6869", "0", "AB")
}

// mixedMake tells a block that makes a package, once in a while one that is refused.
func mixedMake(r *rand.Rand, name string) []string {
	lines := []string{"make", "Package: " + name, "Version: " + pick(r, "1", "2", "3", "1:0~a-1")}
	relation := func() string { return pick(r, mixedName(r), mixedName(r), "vv") + pick(r, "", "", " (>= 2)", " (= 1)") }
	if r.IntN(2) == 0 {
		lines = append(lines, "Depends: "+relation()+pick(r, "", " | "+relation(), ", "+relation()))
	}
	if r.IntN(6) == 0 {
		lines = append(lines, "Pre-Depends: "+relation())
	}
	if r.IntN(8) == 0 {
		lines = append(lines, "Provides: vv")
	}
	if r.IntN(10) == 0 {
		lines = append(lines, "Conflicts: "+relation())
	}
	for range r.IntN(3) {
		lines = append(lines, "+"+pick(r, name, name, "d/"+name, "tt")+pick(r, " ", "  ")+pick(r, "-", "00", "6869", strings.Repeat("ab", r.IntN(3000))))
	}
	if r.IntN(8) == 0 {
		lines = slices.Insert(lines, 1+r.IntN(len(lines)), pick(r, "junk", "Size: 1", "files:", "Essential: maybe", "+x", "+ 00", "+tt 00\n+tt 00", "", "Version: 1", "\t", "#\x01", "+x AA", " folded", "+../x 00", "Essential: yes", "Description: a thing"))
	}
	return append(lines, pick(r, "end", "end", "end", "end", "end", "end", "end", "end", "end", "end", "end", "end", "end", "end", "end", "end", "end", "end", "end", "end ", "#"))
}

// mixedIndex tells a block of index text.
func mixedIndex(r *rand.Rand) []string {
	lines := []string{"index"}
	if r.IntN(3) > 0 {
		lines = append(lines, "", "Package: "+mixedName(r), "Version: "+pick(r, "4", "5", "6"), "Depends: "+mixedName(r))
	}
	if r.IntN(6) == 0 {
		lines = append(lines, pick(r, "junk", "", "list", "# a note", "Filename: f", "\x00"))
	}
	return append(lines, "end")
}

// mixedLine tells a line, or a block.
func mixedLine(r *rand.Rand) []string {
	switch r.IntN(26) {
	case 0, 1, 2:
		return mixedMake(r, mixedName(r))
	case 3:
		return mixedIndex(r)
	case 4, 5, 6:
		return []string{"apply" + mixedWishes(r), "cat " + mixedName(r)}
	case 7:
		return []string{pick(r, "plan", "blame") + mixedWishes(r)}
	case 8:
		return []string{pick(r, "sweep", "undo", "undo", "repair")}
	case 9:
		return []string{pick(r, "hold ", "free ") + pick(r, mixedName(r), "AA", "aa bb")}
	case 10:
		return []string{pick(r, "unpin", "pin "+mixedAtom(r)+pick(r, " 5", " 600", " 1001", " 10001", " 01", ""))}
	case 11:
		return []string{"budget " + pick(r, "0", "9", "40", "1000000", "1152921504606846976", "1152921504606846977", "-1"), "apply" + mixedWishes(r), "budget 99999"}
	case 12:
		return []string{pick(r, "forget", "reopen", "sync", "calls", "list", "seq")}
	case 13:
		return []string{pick(r, "cat ", "owner ", "why ", "cat t/", "why why ") + pick(r, mixedName(r), "tt")}
	case 14:
		return []string{"mark " + mixedName(r) + pick(r, " auto", " manual", "", " x", " auto auto")}
	case 15:
		return []string{"fuse " + fmt.Sprint(r.IntN(16)), "apply" + mixedWishes(r), pick(r, "undo", "sweep", "mark aa auto", "repair"), "crash" + mixedKept(r)}
	case 16:
		return []string{"crash" + mixedKept(r)}
	case 17:
		return []string{"capacity " + pick(r, "0", "65536", "67000", "70000", "1048576", "1073741824", "1073741825")}
	case 18:
		return []string{"raw t/" + pick(r, mixedName(r), "d/aa", "", "stray") + " " + mixedData(r), pick(r, "audit", "repair")}
	case 19:
		return []string{"loss t/" + pick(r, mixedName(r), "d/aa", "none"), pick(r, "audit", "repair")}
	case 20:
		if r.IntN(3) > 0 {
			return []string{"fuse 3", "fuse 999"}
		}
		return []string{pick(r, "raw ", "loss ") + pick(r, "n/7.0", "d/status", "d/journal", "zz", "d/status.new") + pick(r, "", " "+mixedData(r))}
	case 21:
		return []string{pick(r, "", "  ", "# a note", " # no note", "bogus", "end", "list\r", "\t", "caf\u00e9", "lists", "Apply")}
	case 22:
		return []string{"capacity " + fmt.Sprint(65600+r.IntN(4000)), pick(r, "apply"+mixedWishes(r), "loss t/"+mixedName(r)), pick(r, "undo", "repair"), "capacity 1048576"}
	case 23:
		lines := append(making("kk 1; Pre-Depends: ll"), making("ll 1; Depends: kk")...)
		return append(lines, "apply +"+pick(r, "kk", "ll"), pick(r, "forget", "plan ^"))
	case 24:
		return []string{"  " + strings.ReplaceAll(pick(r, "apply", "plan", "blame")+mixedWishes(r), " ", "   ") + " "}
	}
	return []string{"list", "paths", "orphans", "history", "audit", "files"}
}

// mixedKept tells the numbers of a crash.
func mixedKept(r *rand.Rand) string {
	line := ""
	for range r.IntN(8) {
		line += " " + pick(r, "0", "1", "1", "1", "2", "9", "1152921504606846976")
	}
	return line
}

// mixedScript tells a script.
func mixedScript(r *rand.Rand) string {
	var lines []string
	for _, name := range []string{"aa", "bb", "cc", "dd"} {
		if r.IntN(4) > 0 {
			lines = append(lines, "make", "Package: "+name, "Version: 1", "+"+name+" 6869", "end")
		}
	}
	for range 5 + r.IntN(25) {
		lines = append(lines, mixedLine(r)...)
	}
	return strings.Join(lines, "\n") + pick(r, "", "\n", "\n\n")
}

// TestMixed holds scripts of all kinds against the model, some of them over what another one has left.
func TestMixed(t *testing.T) {
	t.Parallel()
	counts := map[string]int{}
	number := regexp.MustCompile(`=[^ ]*|[0-9]+$`)
	var image []api.Blob
	for seed := range uint64(2500) {
		r := rand.New(rand.NewPCG(seed, 24))
		script := mixedScript(r)
		if seed%3 > 0 {
			image = nil
		}
		capacity := pick(r, room, room, room, api.MaxCapacity, api.MaxCapacity+1, 0, 70000)
		got, behind := shell.Run(image, capacity, script)
		want, left := modelRun(image, capacity, script)
		if got != want || seen(behind) != seen(left) {
			t.Fatalf("seed %d:\n%s\ntells\n%s\nand the model\n%s\nthey leave\n%s\nand\n%s", seed, script, got, want, seen(behind), seen(left))
		}
		image = behind
		for _, line := range strings.Split(got, "\n") {
			if what, _, is := strings.Cut(line, " "); is && what == "error" {
				counts[line]++
			} else {
				counts[what]++
			}
			counts[number.ReplaceAllString(line, "N")]++
		}
	}
	for _, what := range []string{
		"error 240", "error 241", "error 165", "error 143", "error 142", "error 141", "error 1", "error 42", "error 44", "error 45", "error 31", "error 30", "error 33", "error 32", "error 200", "error 230", "error 231", "error 182",
		"malformed", "unsat", "cycle", "budget", "archive", "full", "power", "refused", "none", "batch", "ok", "ok none", "ok -", "4 ", "power 0 of N", "power 1 of N", "full 0 of N", "full 1 of N", "refused N",
	} {
		if counts[what] < 2 {
			t.Errorf("%q: %d times", what, counts[what])
		}
	}
}
