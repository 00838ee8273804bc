package shell_test

import (
	"bytes"
	"crypto/sha256"
	"fmt"
	"strings"
	"testing"

	"larder/api"
	"larder/archive"
	"larder/control"
	"larder/front"
	"larder/samples"
	"larder/shell"
	"larder/store"
)

func TestIndex(t *testing.T) {
	scene(t, "P24.3", `
> index
> end
ok
> plan
ok 0 of 0
> index
> Package: aa
> Version: 1
> end
ok
> plan +aa
batch +aa=1
ok 0 of 1
> index
> Summary: a field that nobody knows
> Depends: bb
> end
ok
> plan +aa
unsat
> index
>   | cc
> 
> # a note
> Package: cc
> Version: 2
> 
> 
> end
ok
> plan +aa
batch +cc=2
batch +aa=1
ok 0 of 2
> index
> list
> end
ok
> plan +aa
malformed 12 31
> apply +aa
malformed 12 31
> blame +aa
error 31
> forget
ok
> plan +aa
unsat
> plan
ok 0 of 0
> index
>  Package: aa
> end
ok
> apply
malformed 1 32
> sweep
ok 0 of 0
`)
}

// Which lines end a block, and what is a block's line.
func TestEnds(t *testing.T) {
	for _, c := range []struct{ script, want string }{
		{"index", "error 241\n"},
		{"index\n", "error 241\n"},
		{"index\nseq", "error 241\n"},
		{"seq\nindex\nseq\nend \n end\nEnd\nends\nend\r\n\tend\nseq", "ok 0\nerror 241\n"},
		{"make", "error 241\n"},
		{"make\n", "error 241\n"},
		{"make\nPackage: aa\nVersion: 1\n", "error 241\n"},
		{"make\n+x 0\nseq\nmake", "error 241\n"},
		{"index\nend", "ok\n"},
		{"index\nend\n", "ok\n"},
		{" index  \nend\nseq", "ok\nok 0\n"},
		{"index\nend\nend", "ok\nerror 240\n"},
		{"index x\nend\nseq", "error 240\nerror 240\nok 0\n"},
		{"index\r\nend\nseq", "error 240\nerror 240\nok 0\n"},
		{"index\n#end\n# end\nend\nplan", "ok\nok 0 of 0\n"},
		{"index\n\t\x00\nend\nplan", "ok\nmalformed 1 30\n"},
		{"index\nindex\nend\nend\nplan", "ok\nerror 240\nmalformed 1 31\n"},
		{"index\n\nend \nend\nplan", "ok\nmalformed 2 31\n"},
		{"index\nA:\n end\nend\nplan", "ok\nmalformed 1 48\n"},
		{"make\nPackage: aa\nVersion: 1\nDescription: one\n end\nend", "ok aa=1\n"},
		{"make\nPackage: aa\nVersion: 1\nend \nend", "error 31\n"},
		{"make\nPackage: aa\nmake\nVersion: 1\nend\nend", "error 31\nerror 240\n"},
		{"make x\nPackage: aa\nend", "error 240\nerror 240\nerror 240\n"},
	} {
		if got := tells(c.script); got != c.want {
			t.Errorf("P24.3: %q tells %q, want %q", c.script, got, c.want)
		}
	}
}

// heldBehind tells what is installed on a store's files.
func heldBehind(image []api.Blob) []api.Held {
	return samples.Must(front.Open(samples.Must(store.Load(image, room)))).Query()
}

// What a make makes comes to be installed as its stanza says.
func TestMade(t *testing.T) {
	image := scene(t, "P24.3", `
> make
> description: two
> 
> # a note
> 
> end
error 48
> make
> 
> description: two
>  and more
> + b 00
> DEPENDS: aa(>=1)
> end
error 240
> make
> +usr/z 0001
> 
> # a note
> description: two
> version: 1:2~a-3
>  and more
> end
error 42
> make
> +usr/z 0001
> 
> # a note
> description: two
>  and more
>   +a/b   30  
> Nobody: knows
> +a/b   30  
> version: 1:2~a-3
> +a-b -
> provides: mail,post
> DEPENDS: aa(>=1)
> Package:bb
> Essential: no
> 
> end
ok bb=1:2~a-3
@ aa 1
> apply +mail
ok 2 of 2
> list
aa=1 auto
bb=1:2~a-3 manual
ok 2
> paths
a-b
a/b
usr/z
ok 3
> cat a-b
ok -
> cat a/b
ok 30
> cat usr/z
ok 0001
`)
	files := []api.Blob{{Name: "a-b"}, {Name: "a/b", Data: []byte("0")}, {Name: "usr/z", Data: []byte{0, 1}}}
	want := samples.Packages("aa 1; bb 1:2~a-3 depends=aa(>=1) provides=mail,post")
	want[1].Summary, want[1].Files = "two", samples.Must(archive.Manifest(files))
	for i, contents := range [][]api.Blob{nil, files} {
		data := samples.Must(archive.Build(want[i], contents))
		want[i].Archive, want[i].Size, want[i].Sum = []string{"aa_1.deb", "bb_1:2~a-3.deb"}[i], len(data), sha256.Sum256(data)
	}
	held := heldBehind(image)
	for i, h := range held {
		if len(held) != 2 || !control.Same(h.Package, want[i]) {
			t.Errorf("P24.3: %+v is installed, want %+v", h, want[i])
		}
	}
}

// Where a make puts its stanza: behind an empty line, if there is text; each has its lines as control prints them.
func TestMadeText(t *testing.T) {
	scene(t, "P24.3", `
@ aa 1; +x 6869; Description:    a thing  
> index
> junk
> end
ok
> plan
malformed 9 31
> forget
ok
@ aa 1; +x 6869; Description:    a thing  
@ bb 1
> index
> junk
> end
ok
> plan
malformed 15 31
> forget
ok
> index
> Package: aa
> Version: 1
> end
ok
@ bb 1
> plan +aa +bb
batch +aa=1
batch +bb=1
ok 0 of 2
> index
> Depends: aa
> end
ok
> plan +bb
batch +aa=1
batch +bb=1
ok 0 of 2
> forget
ok
> index
> 
> end
ok
@ bb 1
> index
> junk
> end
ok
> plan
malformed 8 31
> forget
ok
@ aa 1
@ aa 1; Depends: bb
> plan
malformed 7 50
`)
}

// Of two archives of one package the first counts; a make that is refused puts neither a stanza nor an archive.
func TestMadeArchives(t *testing.T) {
	scene(t, "P24.3", `
@ aa 1; +x 31
> make
> Package: bb
> Version: 1
> Essential: maybe
> end
error 42
> make
> Package: bb
> Version: 1
> +y 31
> +y 31
> end
error 45
> plan +aa
batch +aa=1
ok 0 of 1
> plan +bb
unsat
> apply +aa
ok 1 of 1
> apply -aa
ok 1 of 1
@ aa 1; +x 32
> apply +aa
malformed 9 50
> undo
ok 1 of 1
> cat x
ok 31
> forget
ok
> undo
ok 1 of 1
> undo
archive aa=1
@ aa 1; +x 32
> undo
archive aa=1
@ aa 1; +x 31
> undo
archive aa=1
> forget
ok
@ aa 1; +x 31
> undo
ok 1 of 1
`)
}

// flaw is a fault of a make's lines, and what it tells.
type flaw struct {
	what, lines string
	want        api.Errno
}

// data tells so many bytes as a script has them.
func data(bytes int) string { return strings.Repeat("00", bytes) }

// flaws are in the order in which they count.
func flaws() [][]flaw {
	var much, many strings.Builder
	for i := range 17 {
		fmt.Fprintf(&much, "+m%02d %s\n", i, data(api.MaxFile))
	}
	for i := range api.MaxFiles + 1 {
		fmt.Fprintf(&many, "+m%04d -\n", i)
	}
	long := strings.Repeat("l", 95)
	return [][]flaw{
		{{"no data", "+x", 240}, {"odd data", "+x 0", 240}, {"three words", "+x 00 00", 240}, {"capitals", "+x AA", 240}, {"a tab", "+x\t00", 240}, {"a plus alone", "+", 240}, {"a plus and a blank", "+ ", 240}, {"no path, no data", "+ -0", 240}},
		{{"no colon", "junk", 31}, {"an odd byte", "A: \x7f", 30}, {"an odd byte in a note", "#\r", 30}, {"a field twice", "A: 1\na: 2", 33}, {"no name", "-A: 1", 31}},
		{{"Size", "size: 1", 240}, {"SHA256", "Sha256:", 240}, {"Filename", "FILENAME: x", 240}, {"Files", "files:", 240}, {"two paragraphs", "\nB: 1", 240}},
		{{"Essential", "Essential: maybe", 42}, {"Depends", "Depends: a b", 43}, {"Conflicts", "Conflicts: |", 43}, {"Description", "Description: caf\u00e9", 46}},
		{{"a path twice", "+y 00\n+x 00\n+y 00", 45}, {"no path", "+ 00", 44}, {"no path, no data", "+ -", 44}, {"a path that is none", "+x/../y 00", 44}, {"a longer path", "+" + strings.Repeat("p", 101) + " 00", 44}, {"a file that is too long", "+x " + data(api.MaxFile+1), 78}, {"too many files", strings.TrimSuffix(many.String(), "\n"), 45}},
		{{"files that are too long", strings.TrimSuffix(much.String(), "\n"), 2}},
		{{"an archive's name that is too long", "Version: 1" + long, 44}},
	}
}

func TestRefusedMakes(t *testing.T) {
	t.Parallel()
	all := flaws()
	for i, group := range all {
		for k, f := range group {
			holdRefused(t, f.what, f.want, f.lines)
			for _, later := range all[i+1:] {
				if k > 0 && len(later[0].lines) > api.MaxInput { // enough of them, for the sake of time
					continue
				}
				// Of both the one that counts first is told, wherever it stands.
				holdRefused(t, f.what+", "+later[0].what, f.want, f.lines, later[0].lines)
				if f.what != "two paragraphs" && f.what != "a field twice" {
					holdRefused(t, later[0].what+", "+f.what, f.want, later[0].lines, f.lines)
				}
			}
		}
	}
	for _, c := range []struct {
		lines string
		want  int
	}{
		{"", 240}, {"\n\n", 240}, {"# a note\n", 240}, {"+x 00\n", 240}, {"Version: 1\n", 48}, {"Package: aa\n", 48}, {"Package: a\nVersion: 1\n", 40}, {"Package: aa\nVersion: x\n", 41}, {"Package: aa\nVersion: 1\n 2\n", 42},
		{" Package: aa\nVersion: 1\n", 32}, {"Package: aa\n\nVersion: 1\n", 240}, {"Package: aa\n\nVersion\n", 31},
	} {
		if got := tells("make\n" + c.lines + "end\nplan"); got != fmt.Sprintf("error %d\nok 0 of 0\n", c.want) {
			t.Errorf("P24.3: a make of %q tells %q, want %d", c.lines, got, c.want)
		}
	}
}

// holdRefused holds what a make with some faults tells, and that it has made nothing.
func holdRefused(t *testing.T, what string, want api.Errno, faults ...string) {
	t.Helper()
	lines := "make\nPackage: aa\n"
	if text := strings.Join(faults, "\n"); !strings.Contains(text, "\nVersion: ") && !strings.HasPrefix(text, "Version: ") {
		lines += "Version: 1\n"
	}
	got := tells(lines + strings.Join(faults, "\n") + "\nend\nplan +aa\nplan")
	if got != fmt.Sprintf("error %d\nunsat\nok 0 of 0\n", want) {
		t.Errorf("P24.3: a make with %s tells %q, want %d", what, got, want)
	}
}

// What a package may have at most a make takes.
func TestLargeMakes(t *testing.T) {
	t.Parallel()
	var many strings.Builder
	for i := range api.MaxFiles {
		fmt.Fprintf(&many, "+m%04d -\n", i)
	}
	version := "1" + strings.Repeat("l", 100-len("aa_1.deb"))
	for _, c := range []struct{ what, version, lines string }{
		{"as many files as may be", "1", many.String()},
		{"a file as long as may be", "1", "+x " + data(api.MaxFile) + "\n"},
		{"an archive's name as long as may be", version, "+x 00\n"},
		{"paths as long as may be", "1", "+" + strings.Repeat("p", 155) + "/" + strings.Repeat("q", 100) + " 00\n+" + strings.Repeat("p", 100) + " 00\n"},
	} {
		got, image := shell.Run(nil, api.MaxCapacity, "make\nPackage: aa\nVersion: "+c.version+"\n"+c.lines+"end\napply +aa")
		if got != "ok aa="+c.version+"\nok 1 of 1\n" {
			t.Errorf("P24.3: a make with %s tells %.200q", c.what, got)
		}
		if held := heldBehind(image); len(held) != 1 || held[0].Archive != "aa_"+c.version+".deb" || len(held[0].Files) != strings.Count(c.lines, "\n") {
			t.Errorf("P24.3: a make with %s: %d packages", c.what, len(held))
		}
	}
	// A paragraph of more than a file may have has no archive; one of more than a text may have is not read.
	names := make([]string, 0, 1<<17)
	for i := range cap(names) {
		names = append(names, fmt.Sprintf("n%06d", i))
	}
	for size, want := range map[int]string{1 << 10: "ok aa=1\n", 1 << 17: "error 78\n"} {
		var clauses []string
		for part := 0; part < size; part += 128 {
			clauses = append(clauses, strings.Join(names[part:part+128], "|"))
		}
		if got := tells("make\nPackage: aa\nVersion: 1\nDepends: " + strings.Join(clauses, ",") + "\nend"); got != want {
			t.Errorf("P24.3: a make with %d alternatives tells %q, want %q", size, got, want)
		}
	}
	if got := tells("make\nPackage: aa\nVersion: 1\nX: " + strings.Repeat("x", api.MaxInput) + "\nend\nindex\n" + strings.Repeat("#\n", api.MaxInput/2) + "end\nplan\nindex\n\nend\nplan\nforget\nplan"); got != "error 2\nok\nok 0 of 0\nok\nmalformed 0 2\nok\nok 0 of 0\n" {
		t.Errorf("P24.3: texts that are too long tell %q", got)
	}
}

// All bytes go through data, in and out.
func TestData(t *testing.T) {
	var all bytes.Buffer
	for b := range 256 {
		all.WriteByte(byte(b))
	}
	text := fmt.Sprintf("%x", all.Bytes())
	got, image := shell.Run(nil, room, "make\nPackage: aa\nVersion: 1\n+x "+text+"\nend\napply +aa\ncat x\nraw t/y "+text+text+"\ncat y")
	if want := "ok aa=1\nok 1 of 1\nok " + text + "\nok\nok " + text + text + "\n"; got != want {
		t.Errorf("P24.1: data of all bytes tells %q", got)
	}
	for _, b := range image {
		if b.Name == "t/x" && !bytes.Equal(b.Data, all.Bytes()) || b.Name == "t/y" && len(b.Data) != 512 {
			t.Errorf("P24.1: %s has %q", b.Name, b.Data)
		}
	}
}
