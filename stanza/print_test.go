package stanza_test

import (
	"bytes"
	"reflect"
	"slices"
	"strings"
	"testing"

	"larder/api"
	"larder/samples"
	"larder/stanza"
)

// P3.3: the document's examples, and what stands between the parts.
func TestPrint(t *testing.T) {
	for _, c := range []struct {
		list [][]api.Field
		want string
	}{
		{nil, ""},
		{[][]api.Field{}, ""},
		{[][]api.Field{{field("A", "")}}, "A:\n"},
		{[][]api.Field{{field("A", "1")}}, "A: 1\n"},
		{[][]api.Field{{field("A", "", "x")}}, "A:\n x\n"},
		{[][]api.Field{{field("A", "1", " x", "\ty", "#", ":")}}, "A: 1\n  x\n \ty\n #\n :\n"},
		{[][]api.Field{{field("aB", "1 \t 2"), field("~", "\xff")}}, "aB: 1 \t 2\n~: \xff\n"},
		{[][]api.Field{{field("A", "1")}, {field("a", "2"), field("B", "")}, {field("A", "1", "x")}}, "A: 1\n\na: 2\nB:\n\nA: 1\n x\n"},
		{[][]api.Field{{at(field("A", "1", "x"), -3, 9, 9, 9)}}, "A: 1\n x\n"},
		{[][]api.Field{{field("a[", "1"), field("a{", "2"), field("A", "3")}}, "a[: 1\na{: 2\nA: 3\n"},
		{[][]api.Field{{field(strings.Repeat("n", 128), "1")}}, strings.Repeat("n", 128) + ": 1\n"},
	} {
		if got, e := stanza.Print(c.list); string(got) != c.want || e != api.OK {
			t.Errorf("P3.3: Print(%#v) = %q, %d, want %q", c.list, got, e, c.want)
		}
	}
}

// P3.3: what may not be printed, in each place.
func TestPrintForm(t *testing.T) {
	good := []api.Field{field("Good", "1")}
	for _, bad := range [][]api.Field{
		nil,
		{},
		{{}},
		{field("A")},
		{field("", "1")},
		{field("#a", "1")},
		{field("-a", "1")},
		{field("a:b", "1")},
		{field(strings.Repeat("n", 129), "1")},
		{field("A", " 1")},
		{field("A", "1\t")},
		{field("A", "1\n2")},
		{field("A", "\r")},
		{field("A", "1", "")},
		{field("A", "1", "x ")},
		{field("A", "1", "x\ny")},
		{field("A", "1", "\x7f")},
		{field("A", "1"), field("A", "1")},
		{field("A", "1"), field("a", "2")},
		{field("aZ", "1"), field("B", "1"), field("Az", "1")},
		{field("A", "1"), field("B")},
		{field("A"), field("B", "1")},
	} {
		for _, list := range [][][]api.Field{{bad}, {good, bad}, {bad, good}, {good, bad, good}} {
			if got, e := stanza.Print(list); len(got) != 0 || e != api.ErrStzForm {
				t.Errorf("P3.3: Print(%#v) = %q, %d", list, got, e)
			}
		}
	}
}

// P3.3: a text of MaxInput bytes is printed, one of one more is not; the form is asked ahead of the length.
func TestPrintLong(t *testing.T) {
	long := func(n int) string { return strings.Repeat("x", n) }
	for _, c := range []struct {
		list [][]api.Field
		size int
	}{
		{[][]api.Field{{field("A", long(api.MaxInput-4))}}, api.MaxInput},
		{[][]api.Field{{field("A", long(api.MaxInput-3))}}, 0},
		{[][]api.Field{{field("A", "", long(api.MaxInput-5))}}, api.MaxInput},
		{[][]api.Field{{field("A", "", long(api.MaxInput-4))}}, 0},
		{[][]api.Field{{field("A", "1", long(api.MaxInput-12))}, {field("B", "")}, {field("C", "")}}, 0},
		{[][]api.Field{{field("A", "1", long(api.MaxInput-15))}, {field("B", "")}, {field("C", "")}}, api.MaxInput},
		{[][]api.Field{{field("A", "1", long(api.MaxInput-14))}, {field("B", "")}, {field("C", "")}}, 0},
		{[][]api.Field{{field("A", long(api.MaxInput))}, {field("B", "1")}}, 0},
	} {
		want := api.OK
		if c.size == 0 {
			want = api.ErrLong
		}
		got, e := stanza.Print(c.list)
		if len(got) != c.size || e != want {
			t.Errorf("P3.3: Print of %d paragraphs: %d bytes, %d, want %d, %d", len(c.list), len(got), e, c.size, want)
		}
		if back, _, e := stanza.Parse(got); want == api.OK && (e != api.OK || !stanza.Same(back, c.list)) {
			t.Errorf("P3.6: a text of MaxInput bytes does not read back: %d", e)
		}
	}
	for _, list := range [][][]api.Field{
		{{field("A", long(api.MaxInput))}, {field("B")}},
		{{field("A", long(api.MaxInput)), field("a", "")}},
		{{field("A", long(api.MaxInput)+" ")}},
		{{field("A", long(api.MaxInput))}, {}},
	} {
		if got, e := stanza.Print(list); len(got) != 0 || e != api.ErrStzForm {
			t.Errorf("P3.3: Print of what is too long and may not be: %d", e)
		}
	}
}

// P3.6: what is read may have a printed text that is too long.
func TestPrintReadTooLong(t *testing.T) {
	for _, c := range []struct {
		text string
		want api.Errno
	}{
		{"A:" + strings.Repeat("x", api.MaxInput-2), api.ErrLong},
		{"A:" + strings.Repeat("x", api.MaxInput-3) + "\n", api.ErrLong},
		{"A:" + strings.Repeat("x", api.MaxInput-3), api.ErrLong},
		{"A:" + strings.Repeat("x", api.MaxInput-4), api.OK},
		{"A: " + strings.Repeat("x", api.MaxInput-4) + "\n", api.OK},
		{"A: " + strings.Repeat("x", api.MaxInput-3), api.ErrLong},
	} {
		list, wrong, e := stanza.Parse([]byte(c.text))
		if wrong != 0 || e != api.OK {
			t.Fatalf("P3.1: a text of %d bytes: %d, %d", len(c.text), wrong, e)
		}
		got, e := stanza.Print(list)
		if e != c.want || (e != api.OK) != (len(got) == 0) {
			t.Errorf("P3.6: Print of what was read from %d bytes: %d bytes, %d, want %d", len(c.text), len(got), e, c.want)
		}
	}
}

// oraclePrint writes line by line what P3.3 says in words.
func oraclePrint(list [][]api.Field) (string, api.Errno) {
	var paragraphs []string
	for _, p := range list {
		if len(p) == 0 {
			return "", api.ErrStzForm
		}
		text := ""
		for i, f := range p {
			if oracleCheck(f) != api.OK || slices.ContainsFunc(p[:i], func(g api.Field) bool { return strings.EqualFold(f.Name, g.Name) }) {
				return "", api.ErrStzForm
			}
			text += strings.TrimRight(f.Name+": "+strings.Join(f.Lines, "\n "), " \n") + "\n"
			if len(f.Lines) > 1 && f.Lines[0] == "" {
				text = strings.Replace(text, f.Name+": \n", f.Name+":\n", 1)
			}
		}
		paragraphs = append(paragraphs, text)
	}
	return strings.Join(paragraphs, "\n"), api.OK
}

// P3.3, P3.6: all small paragraphs, printed and read back.
func TestPrintAndBack(t *testing.T) {
	var fields []api.Field
	for _, name := range []string{"A", "a", "b", ":"} {
		for _, lines := range [][]string{nil, {""}, {"1"}, {" "}, {"", "x"}, {"1", " x"}, {"1", ""}, {"#:", "#", "\t-"}, {"1", "\xff", "B: 2"}} {
			fields = append(fields, field(name, lines...))
		}
	}
	lists := [][][]api.Field{nil, {nil}}
	for _, f := range fields {
		lists = append(lists, [][]api.Field{{f}})
		for _, g := range fields {
			lists = append(lists, [][]api.Field{{f, g}}, [][]api.Field{{f}, {g}}, [][]api.Field{{f, g}, {g}}, [][]api.Field{{f}, {f, field("C", ""), g}, {g}})
		}
	}
	printed := 0
	for _, list := range lists {
		want, wantError := oraclePrint(list)
		text, e := stanza.Print(list)
		if string(text) != want || e != wantError {
			t.Fatalf("P3.3: Print(%#v) = %q, %d, want %q, %d", list, text, e, want, wantError)
		}
		if e != api.OK {
			continue
		}
		printed++
		back, wrong, e := stanza.Parse(text)
		if e != api.OK || wrong != 0 || !stanza.Same(back, list) {
			t.Fatalf("P3.6: Parse(Print(%#v)) = %#v, %d, %d", list, back, wrong, e)
		}
		if again, e := stanza.Print(back); e != api.OK || !bytes.Equal(again, text) {
			t.Fatalf("P3.6: Print(Parse(Print(%#v))) = %q, %d", list, again, e)
		}
	}
	if printed < 500 {
		t.Errorf("only %d lists were printed", printed)
	}
}

// Memory: Print leaves what it was given as it was, and its answer is the caller's.
func TestPrintMemory(t *testing.T) {
	lines := samples.Roomy([]string{"1", "x"}, "beyond")
	fields := samples.Roomy([]api.Field{{Name: "A", Lines: lines}, field("B", "")}, field("Beyond", ""))
	list := samples.Roomy([][]api.Field{fields}, []api.Field{field("Beyond", "")})
	got, _ := stanza.Print(list)
	again, _ := stanza.Print(list)
	for i := range got {
		got[i] = '!'
	}
	_ = append(got, "more"...)
	if string(again) != "A: 1\n x\nB:\n" {
		t.Errorf("Memory: what is written into an answer changes another: %q", again)
	}
	if !reflect.DeepEqual(lines[:4], []string{"1", "x", "beyond", "beyond"}) || !reflect.DeepEqual(fields[:4], []api.Field{{Name: "A", Lines: lines}, field("B", ""), field("Beyond", ""), field("Beyond", "")}) || len(list[:3][2]) != 1 {
		t.Errorf("Memory: Print writes into what it was given: %q %#v", lines[:4], fields[:4])
	}
}
