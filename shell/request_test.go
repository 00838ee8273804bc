package shell_test

import (
	"fmt"
	"os"
	"strings"
	"testing"

	"larder/api"
)

// The chapter's examples.
func TestExamples(t *testing.T) {
	scene(t, "1", `
> list
ok 0
> bogus
error 240
> apply +aa
unsat
> apply
ok 0 of 0
`)
	scene(t, "2", `
> make
> Package: aa
> Version: 1
> +x 6869
> end
ok aa=1
> apply +aa
ok 1 of 1
> cat x
ok 6869
> list
aa=1 manual
ok 1
> owner x
ok aa=1
> fuse 0
ok
> apply -aa
power 0 of 1
> crash
ok
> list
aa=1 manual
ok 1
`)
}

// What each operator means; what is no name and no version the layers refuse.
func TestAtoms(t *testing.T) {
	scene(t, "P24.1", `
@ aa 1
@ aa 2
@ aa 3; Provides: mail
> plan +aa
batch +aa=3
ok 0 of 1
> plan +aa<<2
batch +aa=1
ok 0 of 1
> plan +aa<=2
batch +aa=2
ok 0 of 1
> plan +aa=2
batch +aa=2
ok 0 of 1
> plan +aa=1.0
unsat
> plan +aa>=1
batch +aa=3
ok 0 of 1
> plan +aa>=3
batch +aa=3
ok 0 of 1
> plan +aa>>2
batch +aa=3
ok 0 of 1
> plan +aa>>3
unsat
> plan +aa<<1
unsat
> plan +aa<=1
batch +aa=1
ok 0 of 1
> plan +mail -aa>>3
batch +aa=3
ok 0 of 1
> plan +mail -bb
batch +aa=3
ok 0 of 1
> plan +mail>=1
unsat
> plan +mail -aa>=3
unsat
> plan +aa -aa
refused 102
> plan +AA
refused 100
> plan +a
refused 100
> plan ++
refused 100
> plan --
refused 100
> plan +-aa
refused 100
> plan +*
refused 100
> plan +aa=1=2
refused 101
> plan +aa==1
refused 101
> plan -aa<<<1
refused 101
> plan +aa=>1
refused 101
> plan +aa>=1-
refused 101
> plan +aa<<aa
refused 101
> plan +aa=1 -bb=1=2 +cc
refused 101
`)
}

// Each answer of apply and plan, and of blame to the same.
func TestApply(t *testing.T) {
	scene(t, "P24.4", `
> apply
ok 0 of 0
> plan
ok 0 of 0
> apply ^
ok 0 of 0
@ aa 1; +x 6869
@ bb 1; Depends: aa; +y 6f
@ cc 1; Pre-Depends: dd
@ dd 1; Depends: cc
> apply +bb +zz
unsat
> plan +bb +zz
unsat
> apply +cc
cycle
> plan +cc
cycle
> apply +aa +aa
ok 1 of 1
> apply +aa
ok 0 of 0
> plan +bb
batch +bb=1
ok 0 of 1
> plan ^ +bb -cc
batch +bb=1
ok 0 of 1
> plan -aa
batch -aa=1
ok 0 of 1
> apply +bb -aa
unsat
> budget 0
ok
> apply +bb
budget
> plan +bb
budget
> sweep
ok 0 of 0
> budget 6
ok
> apply +bb
budget
> budget 1152921504606846976
ok
> apply +bb
ok 1 of 1
> plan -aa -bb
batch -bb=1
batch -aa=1
ok 0 of 2
> plan -aa
batch -bb=1
batch -aa=1
ok 0 of 2
> apply -bb=2 -aa>>1
ok 0 of 0
> apply -aa -bb
ok 2 of 2
> apply ^
ok 0 of 0
@ aa 2; +x 686f
> apply +aa=1
ok 1 of 1
> plan ^
batch -aa=1 +aa=2
ok 0 of 1
> apply ^
ok 1 of 1
> plan +aa<<2
batch -aa=2 +aa=1
ok 0 of 1
> cat x
ok 686f
> history
1 1 +aa=1
2 2 +bb=1
3 3 -bb=1
4 3 -aa=1
5 5 +aa=1
6 6 -aa=1 +aa=2
ok 6
`)
}

// The order of a batch's packages, of several batches, and what is displaced.
func TestPlan(t *testing.T) {
	scene(t, "P24.4", `
@ bb 1; Depends: aa
@ aa 1; Depends: bb
@ cc 1; Depends: aa
> plan +cc
batch +aa=1 +bb=1
batch +cc=1
ok 0 of 2
> apply +cc
ok 2 of 2
@ bb 2; Depends: aa (>= 2)
@ aa 2; Depends: bb (>= 2)
> plan ^
batch -aa=1 -bb=1 +aa=2 +bb=2
ok 0 of 1
> plan -aa -bb -cc
batch -cc=1
batch -aa=1 -bb=1
ok 0 of 2
`)
	scene(t, "example 3 of the whole", `
@ pp 1; Depends: lib (= 1); +p 31
@ lib 1; +l 31
> apply +pp
ok 2 of 2
@ pp 2; Pre-Depends: lib (>= 2); +p 32
@ lib 2; +l 32
> plan +pp>=2
batch -lib=1 -pp=1
batch +lib=2
batch +pp=2
ok 0 of 3
> list
lib=1 auto
pp=1 manual
ok 2
> apply +pp>=2
ok 3 of 3
> list
lib=2 auto
pp=2 manual
ok 2
> undo
ok 1 of 1
> list
lib=1 auto
pp=1 manual
ok 2
`)
}

// Answers that hang on archives, on room and on power.
func TestHindered(t *testing.T) {
	scene(t, "P24.4", `
> index
> Package: aa
> Version: 1
> Filename: aa_1.deb
> Size: 1
> SHA256: 0000000000000000000000000000000000000000000000000000000000000000
> 
> Package: ab
> Version: 1
> Depends: aa
> end
ok
> apply +aa
archive aa=1
> plan +aa
batch +aa=1
ok 0 of 1
> apply +ab
archive aa=1
> forget
ok
@ aa 1; +x 6869
@ bb 1; Depends: aa; +y 6f
> capacity 65536
ok
> apply +aa
full 0 of 1
> plan +bb
batch +aa=1
batch +bb=1
ok 0 of 2
> capacity 65830
ok
> apply +bb
full 1 of 2
> list
aa=1 auto
ok 1
> audit
ok 0
> capacity 1073741824
ok
> capacity 1073741825
error 1
> fuse 8
ok
> apply -aa
ok 1 of 1
> apply +bb
power 0 of 2
> apply +bb
power 0 of 0
> apply
power 0 of 0
> sweep
power 0 of 0
> undo
power 0 of 0
> plan -aa +bb
unsat
> crash 0 1
ok
> list
ok 0
> fuse 3
ok
> apply +bb
power 0 of 2
> crash 1
ok
> list
aa=1 auto
ok 1
> audit
ok 0
> apply -aa
ok 1 of 1
> fuse 6
ok
> apply +bb
power 1 of 2
> crash
ok
> list
aa=1 auto
ok 1
`)
}

func TestSweepAndUndo(t *testing.T) {
	scene(t, "P24.4", `
> undo
refused 221
> sweep
ok 0 of 0
@ aa 1; +x 6869
@ bb 1; Depends: aa; +y 6f
> apply +bb
ok 2 of 2
> sweep
ok 0 of 0
> apply -bb
ok 1 of 1
> hold aa
ok
> sweep
ok 0 of 0
> orphans
ok 0
> hold bb
ok
> hold aa
ok
> free aa
ok
> orphans
aa=1
ok 1
> free zz
ok
> fuse 4
ok
> sweep
power 0 of 1
> crash
ok
> sweep
ok 0 of 0
> list
ok 0
> forget
ok
> undo
archive aa=1
@ aa 1; +x 6869
> capacity 0
ok
> undo
full 0 of 1
> capacity 1048576
ok
> undo
ok 1 of 1
> list
aa=1 auto
ok 1
> capacity 0
ok
> sweep
full 0 of 1
> capacity 1048576
ok
> undo
ok 1 of 1
> list
ok 0
> undo
ok 1 of 1
> undo
ok 1 of 1
> fuse 0
ok
> undo
power 0 of 1
`)
}

func TestHoldsAndPins(t *testing.T) {
	scene(t, "P24.4", `
@ aa 1
@ aa 2
@ aa 3
> pin aa=1 501
ok
> plan +aa
batch +aa=1
ok 0 of 1
> pin aa>=2 502
ok
> plan +aa
batch +aa=3
ok 0 of 1
> pin aa 9999
ok
> plan +aa
batch +aa=3
ok 0 of 1
> unpin
ok
> plan +aa
batch +aa=3
ok 0 of 1
> pin aa>>1 499
ok
> pin aa=2 501
ok
> plan +aa
batch +aa=1
ok 0 of 1
> unpin
ok
> unpin
ok
> pin aa<<3 501
ok
> pin aa<=3 502
ok
> plan +aa
batch +aa=3
ok 0 of 1
> unpin
ok
> pin * 500
ok
> pin aa=1 501
ok
> apply +aa
ok 1 of 1
> list
aa=3 manual
ok 1
> unpin
ok
> pin aa=1 10000
ok
> plan ^
ok 0 of 0
> pin aa=1 10001
ok
> plan ^
refused 1
> sweep
ok 0 of 0
> unpin
ok
> pin AA 1
ok
> plan
refused 100
> blame
error 100
> unpin
ok
> pin aa=a 1
ok
> plan
refused 101
> unpin
ok
> pin aa=1=2 1
ok
> plan
refused 101
> unpin
ok
> pin aa 0
ok
> plan
ok 0 of 0
> hold aa
ok
> plan -aa
unsat
> plan +aa<<3
unsat
> free aa
ok
> plan -aa
batch -aa=3
ok 0 of 1
> plan +aa<<3
batch -aa=3 +aa=2
ok 0 of 1
> hold AA
ok
> plan -aa
refused 100
> sweep
ok 0 of 0
> free AA
ok
> free AA
ok
> plan -aa
batch -aa=3
ok 0 of 1
`)
}

// A hold stands once, at its first place: how many looks it takes to see that all can't be hangs on their order.
func TestHoldsInOrder(t *testing.T) {
	scene(t, "P24.4", `
@ aa 1
@ bb 1
> apply +aa +bb
ok 2 of 2
> hold aa
ok
> hold bb
ok
> budget 5
ok
> plan -aa
unsat
> hold aa
ok
> plan -aa
unsat
> free bb
ok
> hold bb
ok
> plan -aa
unsat
> free aa
ok
> hold aa
ok
> plan -aa
budget
> budget 6
ok
> plan -aa
unsat
`)
	var script strings.Builder
	for i := range api.MaxClauses {
		fmt.Fprintf(&script, "hold h%d\nhold h0\n", i)
	}
	script.WriteString("apply\nhold more\napply\nfree h0\napply\nhold h0\napply\n")
	if got := strings.ReplaceAll(tells(script.String()), "ok\n", ""); got != "ok 0 of 0\nrefused 106\nok 0 of 0\nrefused 106\n" {
		t.Errorf("P24.4: so many holds tell %q", got)
	}
	if got := strings.ReplaceAll(tells(strings.Repeat("pin aa 1\n", api.MaxClauses)+"apply\npin aa 1\napply\nunpin\napply"), "ok\n", ""); got != "ok 0 of 0\nrefused 106\nok 0 of 0\n" {
		t.Errorf("P24.4: so many pins tell %q", got)
	}
}

// What goes on from line to line: neither a crash nor a reopen changes an index, archives, holds, pins or the budget, nor a forget the latter three.
func TestWhatGoesOn(t *testing.T) {
	scene(t, "P24.2", `
@ aa 1; +x 31
@ aa 2; +x 32
> pin aa=1 900
ok
> hold aa
ok
> apply +aa
ok 1 of 1
> crash
ok
> reopen
ok
> apply -aa
unsat
> plan ^
ok 0 of 0
> free aa
ok
> apply +aa=2
ok 1 of 1
> apply ^
ok 0 of 0
> cat x
ok 32
> hold aa
ok
> budget 1
ok
> crash
ok
> forget
ok
> reopen
ok
> apply -aa
budget
> budget 10
ok
> apply -aa
unsat
@ aa 1; +x 31
@ aa 3; +x 33
> free aa
ok
> plan ^ -aa=2
budget
> budget 1000
ok
> plan +aa<<3 -aa=2
refused 102
> plan ^ -aa=2
batch -aa=2 +aa=3
ok 0 of 1
> apply -aa
ok 1 of 1
> apply +aa
ok 1 of 1
> list
aa=1 manual
ok 1
`)
}

// looks is an index over which a request without wishes takes just so many looks, at least as many as there are pairs of versions of one name.
func looks(count int) string {
	const versions = 1414
	var text strings.Builder
	for i := range versions {
		fmt.Fprintf(&text, "Package: aa\nVersion: %d\n\n", i)
	}
	for i := range count - versions*(versions-1)/2 {
		fmt.Fprintf(&text, "Package: b%d\nVersion: 1\nDepends: aa\n\n", i)
	}
	return text.String()
}

// A million looks are what a request may take at the beginning.
func TestFirstBudget(t *testing.T) {
	t.Parallel()
	for count, want := range map[int]string{1000000: "ok 0 of 0\n", 1000001: "budget\n"} {
		if got := tells("index\n" + looks(count) + "end\nplan"); got != "ok\n"+want {
			t.Errorf("P24.2: a request that takes %d looks tells %q", count, got)
		}
	}
}

// The script that README.md shows tells what it says.
func TestReadme(t *testing.T) {
	text, e := os.ReadFile("../README.md")
	if e != nil {
		t.Fatal(e)
	}
	_, table, _ := strings.Cut(string(text), "| line | tells | |\n|---|---|---|\n")
	table, _, _ = strings.Cut(table, "\n\n")
	var script, want string
	for row := range strings.SplitSeq(table, "\n") {
		cells := strings.Split(row, "|")
		script += strings.Trim(cells[1], " `") + "\n"
		if told := strings.Trim(cells[2], " `"); told != "" {
			want += strings.ReplaceAll(told, "`, `", "\n") + "\n"
		}
	}
	if got := tells(script); got != want || want == "" {
		t.Errorf("%q tells %q, want %q", script, got, want)
	}
}
