package stanza_test

import (
	"bytes"
	"reflect"
	"regexp"
	"strconv"
	"strings"
	"testing"

	"larder/api"
	"larder/samples"
	"larder/stanza"
)

var (
	oddForm        = regexp.MustCompile(`[\x00-\x08\x0b-\x1f\x7f]`)
	emptyForm      = regexp.MustCompile(`^[ \t]*$`)
	foldedLineForm = regexp.MustCompile(`^[ \t](.*?)[ \t]*$`)
	firstLineForm  = regexp.MustCompile(`^([!"$-,.-9;-~][!-9;-~]{0,127}):[ \t]*(.*?)[ \t]*$`)
)

// reading is what a text is read as: its whole paragraphs ahead of what is wrong, and that.
type reading struct {
	whole [][]api.Field
	wrong int
	e     api.Errno
}

// oracle reads by regular expressions what P3.1 and P3.2 say in words.
func oracle(text string) reading {
	list := strings.Split(text, "\n")
	if list[len(list)-1] == "" {
		list = list[:len(list)-1]
	}
	var whole [][]api.Field
	var open []api.Field
	for i, line := range list {
		folded, first := foldedLineForm.FindStringSubmatch(line), firstLineForm.FindStringSubmatch(line)
		switch {
		case oddForm.MatchString(line):
			return reading{whole, i + 1, api.ErrStzByte}
		case emptyForm.MatchString(line):
			if open != nil {
				whole = append(whole, open)
			}
			open = nil
		case line[0] == '#':
		case folded != nil && open == nil:
			return reading{whole, i + 1, api.ErrStzFold}
		case folded != nil:
			f := &open[len(open)-1]
			f.Lines, f.At = append(f.Lines, folded[1]), append(f.At, i+1)
		case first == nil:
			return reading{whole, i + 1, api.ErrStzName}
		default:
			for _, f := range open {
				if strings.EqualFold(f.Name, first[1]) {
					return reading{whole, i + 1, api.ErrStzTwice}
				}
			}
			open = append(open, at(field(first[1], first[2]), i+1))
		}
	}
	if open != nil {
		whole = append(whole, open)
	}
	return reading{whole, 0, api.OK}
}

// given tells what Each gives, and the numbers beside it.
func given(text string) ([]int, [][]api.Field) {
	var numbers []int
	var list [][]api.Field
	for n, p := range stanza.Each([]byte(text)) {
		numbers, list = append(numbers, n), append(list, p)
	}
	return numbers, list
}

// holdAgainstOracle holds Parse and Each of a text against the oracle.
func holdAgainstOracle(t *testing.T, text string) reading {
	t.Helper()
	want := oracle(text)
	parsed := want.whole
	if want.e != api.OK {
		parsed = nil
	}
	got, wrong, e := stanza.Parse([]byte(text))
	if wrong != want.wrong || e != want.e || len(got)+len(parsed) > 0 && !reflect.DeepEqual(got, parsed) {
		t.Fatalf("P3.1: Parse(%q) = %#v, %d, %d, want %#v, %d, %d", text, got, wrong, e, parsed, want.wrong, want.e)
	}
	numbers, list := given(text)
	if len(list)+len(want.whole) > 0 && !reflect.DeepEqual(list, want.whole) {
		t.Fatalf("P3.2: Each(%q) gives %#v, want %#v", text, list, want.whole)
	}
	for i, n := range numbers {
		if n != want.whole[i][0].At[0] {
			t.Fatalf("P3.2: Each(%q) gives the paragraph %d at the line %d, want %d", text, i, n, want.whole[i][0].At[0])
		}
	}
	return want
}

// tails are what a text may go on with behind the line that is wrong: nothing, what is right and what is wrong itself.
var tails = []string{"", "\n", "A: 1\n", " x", "\x00", "b", "#\n\nZ: 1\n\n"}

// holdPrefix holds P3.7: what stands behind the line that is wrong changes nothing.
func holdPrefix(t *testing.T, text string, r reading) {
	t.Helper()
	list := strings.SplitN(text, "\n", r.wrong+1)
	head := strings.Join(list[:r.wrong], "\n") + "\n"
	for _, tail := range tails {
		if _, wrong, e := stanza.Parse([]byte(head + tail)); wrong != r.wrong || e != r.e {
			t.Fatalf("P3.7: Parse(%q) = %d, %d, want %d, %d", head+tail, wrong, e, r.wrong, r.e)
		}
	}
}

// holdBack holds P3.6: what is read prints, and reads back.
func holdBack(t *testing.T, text string, r reading) {
	t.Helper()
	printed, e := stanza.Print(r.whole)
	if e != api.OK {
		t.Fatalf("P3.6: Print of Parse(%q) = %d", text, e)
	}
	back, wrong, e := stanza.Parse(printed)
	if e != api.OK || wrong != 0 || !stanza.Same(back, r.whole) {
		t.Fatalf("P3.6: Parse(Print(Parse(%q))) = %#v, %d, %d", text, back, wrong, e)
	}
	if again, e := stanza.Print(back); e != api.OK || !bytes.Equal(again, printed) {
		t.Fatalf("P3.6: Print(Parse(Print(Parse(%q)))) = %q, %d, want %q", text, again, e, printed)
	}
}

// P3.1, P3.2, P3.6, P3.7: all small texts of bytes, and of lines.
func TestReadAgainstOracle(t *testing.T) {
	bits := []string{"A", "a", ":", " ", "\n", "#", "\r", "-"}
	rows := []string{"A: 1\n", "a:\n", "b:x \t\n", "B :\n", " c \n", "\t #\t\n", "# c\n", "#\x1f\n", " \t\n", "\n", "\xe9"}
	for _, text := range append(samples.Texts(bits, 5), samples.Texts(rows, 4)...) {
		r := holdAgainstOracle(t, text)
		if r.e == api.OK {
			holdBack(t, text, r)
		} else {
			holdPrefix(t, text, r)
		}
	}
}

// P3.1: the document's examples and what each line is, with the lines' numbers.
func TestParse(t *testing.T) {
	for _, c := range []struct {
		text string
		want [][]api.Field
	}{
		{"", nil},
		{"\n", nil},
		{" ", nil},
		{"\n \n\t\n \t ", nil},
		{"#", nil},
		{"# c\n\n#d\n", nil},
		{"A: 1\n b \n", [][]api.Field{{at(field("A", "1", "b"), 1, 2)}}},
		{"A:", [][]api.Field{{at(field("A", ""), 1)}}},
		{"A:\n", [][]api.Field{{at(field("A", ""), 1)}}},
		{"A:1", [][]api.Field{{at(field("A", "1"), 1)}}},
		{"A: \t1 \t2\t \n", [][]api.Field{{at(field("A", "1 \t2"), 1)}}},
		{"A: b: c:", [][]api.Field{{at(field("A", "b: c:"), 1)}}},
		{"A::", [][]api.Field{{at(field("A", ":"), 1)}}},
		{"A: # no comment", [][]api.Field{{at(field("A", "# no comment"), 1)}}},
		{"A#-: -", [][]api.Field{{at(field("A#-", "-"), 1)}}},
		{"A: \x80\xff\n \xc3\n", [][]api.Field{{at(field("A", "\x80\xff", "\xc3"), 1, 2)}}},
		// A blank is a byte 32 or 9, no other space.
		{"A: \u00a01\u2003\n \u0085x\u3000 \n", [][]api.Field{{at(field("A", "\u00a01\u2003", "\u0085x\u3000"), 1, 2)}}},
		{"A: \x851\xa0\n \u00a0\n", [][]api.Field{{at(field("A", "\x851\xa0", "\u00a0"), 1, 2)}}},
		// Folded lines: the first byte goes, blanks behind it stay, those at the end go.
		{"A:\n b", [][]api.Field{{at(field("A", "", "b"), 1, 2)}}},
		{"A: 1\n  b \t\n\t\tc\n \t d\n", [][]api.Field{{at(field("A", "1", " b", "\tc", "\t d"), 1, 2, 3, 4)}}},
		{"A: 1\n # c\n -\n :\n B: 2\n", [][]api.Field{{at(field("A", "1", "# c", "-", ":", "B: 2"), 1, 2, 3, 4, 5)}}},
		// Comments, ahead of a paragraph, within it and behind it: they part nothing, and count as lines.
		{"A: 1\n# c\n x\n", [][]api.Field{{at(field("A", "1", "x"), 1, 3)}}},
		{"# c\n#\nA: 1\n#:\nB: 2\n# c\n y\n# c", [][]api.Field{{at(field("A", "1"), 3), at(field("B", "2", "y"), 5, 7)}}},
		{"A: 1\n\n# c\n\nB: 2\n", [][]api.Field{{at(field("A", "1"), 1)}, {at(field("B", "2"), 5)}}},
		{"A: 1\n# c\n\n# c\nB: 2\n", [][]api.Field{{at(field("A", "1"), 1)}, {at(field("B", "2"), 5)}}},
		// Empty lines, one or more, of blanks too, ahead, between and behind.
		{"\n \nA: 1\nB: 2\n \t\n\n\t\nC: 3\n\n \n", [][]api.Field{{at(field("A", "1"), 3), at(field("B", "2"), 4)}, {at(field("C", "3"), 8)}}},
		{"A: 1\n ", [][]api.Field{{at(field("A", "1"), 1)}}},
		{"A: 1\n\nA: 2\n\na: 3", [][]api.Field{{at(field("A", "1"), 1)}, {at(field("A", "2"), 3)}, {at(field("a", "3"), 5)}}},
		// Bytes 32 apart that are no letters make two names.
		{"a[: 1\na{: 2\na@: 3\na`: 4\n", [][]api.Field{{at(field("a[", "1"), 1), at(field("a{", "2"), 2), at(field("a@", "3"), 3), at(field("a`", "4"), 4)}}},
		{"A: 1\nAB: 2\nB: 3", [][]api.Field{{at(field("A", "1"), 1), at(field("AB", "2"), 2), at(field("B", "3"), 3)}}},
	} {
		got, wrong, e := stanza.Parse([]byte(c.text))
		if len(got)+len(c.want) > 0 && !reflect.DeepEqual(got, c.want) || wrong != 0 || e != api.OK {
			t.Errorf("P3.1: Parse(%q) = %#v, %d, %d, want %#v", c.text, got, wrong, e, c.want)
		}
	}
}

// P3.1: the first line that is wrong, and of several faults of it the one named first.
func TestParseWrong(t *testing.T) {
	for _, c := range []struct {
		text  string
		wrong int
		e     api.Errno
	}{
		{" x", 1, api.ErrStzFold},
		{"\tx\n", 1, api.ErrStzFold},
		{"A: 1\n\n x", 3, api.ErrStzFold},
		{"A: 1\n \t\n x", 3, api.ErrStzFold},
		{"# c\n x", 2, api.ErrStzFold},
		{"A: 1\n\n# c\n x", 4, api.ErrStzFold},
		{": 1", 1, api.ErrStzName},
		{"-a: 1", 1, api.ErrStzName},
		{"-", 1, api.ErrStzName},
		{"a b", 1, api.ErrStzName},
		{"a b: 1", 1, api.ErrStzName},
		{"a : 1", 1, api.ErrStzName},
		{"a\t: 1", 1, api.ErrStzName},
		{"a", 1, api.ErrStzName},
		{"\xe9: 1", 1, api.ErrStzName},
		{"a\x80: 1", 1, api.ErrStzName},
		{"A: 1\na: 2", 2, api.ErrStzTwice},
		{"A: 1\nA: 1\n", 2, api.ErrStzTwice},
		{"aZ: 1\nB: 2\n x\n# c\nAz:", 5, api.ErrStzTwice},
		{"A: 1\r\n", 1, api.ErrStzByte},
		{"\r\n", 1, api.ErrStzByte},
		{" \x0b", 1, api.ErrStzByte},
		{"A: 1\n\n\x00", 3, api.ErrStzByte},
		{"A: 1\n x\x7f\n", 2, api.ErrStzByte},
		// A comment has bytes too, wherever it stands.
		{"#\x00", 1, api.ErrStzByte},
		{"# c\r\nA: 1\n", 1, api.ErrStzByte},
		{"A: 1\n# \x1b\n x\n", 2, api.ErrStzByte},
		{"A: 1\n\n#\x7f", 3, api.ErrStzByte},
		// Several things wrong in one line.
		{"a\x01", 1, api.ErrStzByte},
		{"-\x01: 1", 1, api.ErrStzByte},
		{" x\x01", 1, api.ErrStzByte},
		{"A: 1\nA: \x01", 2, api.ErrStzByte},
		{"A: 1\nA\n", 2, api.ErrStzName},
		{"A: 1\nA : 2\n", 2, api.ErrStzName},
		// And in several lines: the first one ends it.
		{" x\na\n\x00", 1, api.ErrStzFold},
		{"a\n x\n\x00", 1, api.ErrStzName},
		{"A: 1\na: 2\n\x00\nb", 2, api.ErrStzTwice},
		{"\n\nA: 1\n\nb\nA: \x00\n", 5, api.ErrStzName},
	} {
		got, wrong, e := stanza.Parse([]byte(c.text))
		if len(got) != 0 || wrong != c.wrong || e != c.e {
			t.Errorf("P3.1: Parse(%q) = %#v, %d, %d, want %d, %d", c.text, got, wrong, e, c.wrong, c.e)
		}
	}
}

// P3.1: each byte in each place.
func TestParseBytes(t *testing.T) {
	for b := range 256 {
		s := string([]byte{byte(b)})
		for _, text := range []string{s, s + "A: 1", "A" + s + ": 1", "A" + s, "A: 1" + s + "2", "A: 1\n" + s + "x", "A: 1\n x" + s, "#" + s, "A: 1\n#" + s + "\n x", "A: 1\nA" + s + ": 2", "A: 1\n" + s + "\n x"} {
			holdAgainstOracle(t, text)
		}
	}
}

// P3.1: names of 1, 128 and 129 bytes, and letters' case in each place.
func TestParseNames(t *testing.T) {
	for _, n := range []int{1, 127, 128} {
		name := strings.Repeat("n", n)
		if got, wrong, e := stanza.Parse([]byte(name + ": 1\n")); wrong != 0 || e != api.OK || !reflect.DeepEqual(got, [][]api.Field{{at(field(name, "1"), 1)}}) {
			t.Errorf("P3.1: a name of %d bytes: %d, %d", n, wrong, e)
		}
		if _, wrong, e := stanza.Parse([]byte(name + ": 1\n" + strings.ToUpper(name) + ": 2\n")); wrong != 2 || e != api.ErrStzTwice {
			t.Errorf("P3.1: names of %d bytes, alike but for case: %d, %d", n, wrong, e)
		}
	}
	for _, n := range []int{129, 1000} {
		if _, wrong, e := stanza.Parse([]byte(strings.Repeat("n", n) + ": 1\n")); wrong != 1 || e != api.ErrStzName {
			t.Errorf("P3.1: a name of %d bytes: %d, %d", n, wrong, e)
		}
	}
	for b := 'a'; b <= 'z'; b++ {
		small, big := "x"+string(b)+"X", "X"+string(b-32)+"x"
		if _, wrong, e := stanza.Parse([]byte(small + ":\n" + big + ":")); wrong != 2 || e != api.ErrStzTwice {
			t.Errorf("P3.1: %q and %q: %d, %d", small, big, wrong, e)
		}
	}
}

// longText tells a text of so many bytes: many lines, with one paragraph that ends it.
func longText(size int) []byte {
	text := []byte("Aa: 1\n x\n\n")
	text = append(text, bytes.Repeat([]byte("# c\n\n"), 1000)...)
	text = append(text, "B: "...)
	return append(text, bytes.Repeat([]byte("y"), size-len(text))...)
}

// P3.1, P3.2: a text of MaxInput bytes is taken, one of one more is not looked at.
func TestReadLong(t *testing.T) {
	for _, textOf := range []func(int) []byte{
		longText,
		func(n int) []byte { return bytes.Repeat([]byte("\n"), n) },
		func(n int) []byte { return append([]byte("A:\n"), bytes.Repeat([]byte(" x\n"), n/3)...)[:n] },
	} {
		text := textOf(api.MaxInput)
		if _, wrong, e := stanza.Parse(text); wrong != 0 || e != api.OK {
			t.Errorf("P3.1: a text of MaxInput bytes, %.10q: %d, %d", text, wrong, e)
		}
		text = textOf(api.MaxInput + 1)
		if got, wrong, e := stanza.Parse(text); len(got) != 0 || wrong != 0 || e != api.ErrLong {
			t.Errorf("P3.1: a text of one byte more, %.10q: %d, %d", text, wrong, e)
		}
		if numbers, _ := given(string(text)); len(numbers) != 0 {
			t.Errorf("P3.2: Each of a text of one byte more, %.10q, gives %#v", text, numbers)
		}
	}
	if numbers, list := given(string(longText(api.MaxInput))); !reflect.DeepEqual(numbers, []int{1, 2004}) || len(list[1][0].Lines[0]) != api.MaxInput-5013 {
		t.Errorf("P3.2: Each of a text of MaxInput bytes gives %#v", numbers)
	}
	// Length is asked first, whatever stands in the text.
	if got, wrong, e := stanza.Parse(append([]byte("\x00"), longText(api.MaxInput)...)); len(got) != 0 || wrong != 0 || e != api.ErrLong {
		t.Errorf("P3.1: a text of one byte more with an odd byte: %d, %d", wrong, e)
	}
}

// P3.1: many fields of one paragraph, and many lines of one field.
func TestReadMany(t *testing.T) {
	const many = 200000
	var text []byte
	for i := range many {
		text = append(strconv.AppendInt(append(text, 'n'), int64(i), 10), ":\n .\n"...)
	}
	got, wrong, e := stanza.Parse(text)
	if wrong != 0 || e != api.OK || len(got) != 1 || len(got[0]) != many || stanza.Line(got[0][many-1], 1) != 2*many {
		t.Errorf("P3.1: %d fields: %d, %d", many, wrong, e)
	}
	if _, wrong, e := stanza.Parse(append(text, "N777: again\n"...)); wrong != 2*many+1 || e != api.ErrStzTwice {
		t.Errorf("P3.1: a field again behind %d: %d, %d", many, wrong, e)
	}
}

// P3.7: an error stands where it stood in a text that goes on up to MaxInput bytes.
func TestPrefixLong(t *testing.T) {
	for _, head := range []string{" x\n", "A: 1\nb\n", "\n\nA:\na:\n", "A: 1\n#\x00\n"} {
		_, wrong, e := stanza.Parse([]byte(head))
		long := append([]byte(head), bytes.Repeat([]byte("\x00\n"), api.MaxInput)...)[:api.MaxInput]
		if _, n, same := stanza.Parse(long); e == api.OK || n != wrong || same != e {
			t.Errorf("P3.7: %q and more: %d, %d, want %d, %d", head, n, same, wrong, e)
		}
	}
}

// P3.2: the paragraphs that are whole ahead of what is wrong, each with its first field's line.
func TestEach(t *testing.T) {
	for _, c := range []struct {
		text string
		want []int
	}{
		{"", nil}, {"\n \n# c", nil}, {"A: 1", []int{1}}, {"\n# c\nA: 1\n x\nB: 2\n", []int{3}},
		{"A: 1\n\nB: 2\n\n\n# c\nC: 3", []int{1, 3, 7}},
		{"\nA: 1\n\nB: 2\nC: 3\n\nD: 4\nbad\n", []int{2, 4}},
		{"bad\n\nA: 1\n", nil}, {"A: 1\nbad", nil}, {"A: 1\n\nbad", []int{1}}, {"A: 1\n \nbad\n\nB: 2", []int{1}},
		{"A: 1\n#\x00", nil}, {"A: 1\n\n#\x00", []int{1}}, {"A: 1\na: 1\n\nB: 2", nil}, {"A: 1\n\n x\n\nB: 2", []int{1}},
	} {
		numbers, list := given(c.text)
		if !reflect.DeepEqual(numbers, c.want) {
			t.Errorf("P3.2: Each(%q) gives %#v, want %#v", c.text, numbers, c.want)
		}
		for i, p := range list {
			if len(p) == 0 || stanza.Line(p[0], 0) != numbers[i] {
				t.Errorf("P3.2: Each(%q) gives %#v at %d", c.text, p, numbers[i])
			}
		}
	}
	if stanza.Each(nil) == nil || stanza.Each(make([]byte, api.MaxInput+1)) == nil {
		t.Error("Memory: an iterator is nil")
	}
}

// P3.2, Memory: an iterator may be gone through again, stopped on the way, and within itself.
func TestEachAgain(t *testing.T) {
	seq := stanza.Each([]byte("A: 1\n\nB: 2\n\nC: 3\n\nbad"))
	for stop := range 5 {
		count := 0
		for range seq {
			if count++; count == stop {
				break
			}
		}
		if want := min(3, stop); stop > 0 && count != want {
			t.Errorf("P3.2: stopped at %d, Each gives %d", stop, count)
		}
	}
	var pairs []int
	for n := range seq {
		for m := range seq {
			pairs = append(pairs, 10*n+m)
		}
	}
	if want := []int{11, 13, 15, 31, 33, 35, 51, 53, 55}; !reflect.DeepEqual(pairs, want) {
		t.Errorf("P3.2: Each within itself gives %#v, want %#v", pairs, want)
	}
}

// Memory: an iterator speaks of the text as it was when it was asked for, whatever is done with the text and with what it gave.
func TestEachMemory(t *testing.T) {
	text := samples.Roomy([]byte("A: 1\n x\nB: 2\n\nA: 3\n"), '!')
	want := [][]api.Field{{at(field("A", "1", "x"), 1, 2), at(field("B", "2"), 3)}, {at(field("A", "3"), 5)}}
	seq := stanza.Each(text)
	for i := range text {
		text[i] = '\n'
	}
	for range 2 {
		var list [][]api.Field
		for _, p := range seq {
			list = append(list, p)
			copied := copyOf([][]api.Field{p})[0]
			p[0].Lines[0], p[0].At[0] = "over", -1
			_ = append(append(p, field("C")), field("D"))
			for i := range p {
				p[i].Name = "over"
				_, _ = append(p[i].Lines, "more"), append(p[i].At, -2)
			}
			list[len(list)-1] = copied
		}
		if !reflect.DeepEqual(list, want) {
			t.Errorf("Memory: Each gives %#v, want %#v", list, want)
		}
	}
	if beyond := text[:cap(text)][len(text):]; beyond[0] != '!' || beyond[1] != '!' {
		t.Errorf("Memory: Each writes beyond its text: %q", beyond)
	}
}

// copyOf tells paragraphs in memory of their own.
func copyOf(list [][]api.Field) [][]api.Field {
	var all [][]api.Field
	for _, p := range list {
		var fields []api.Field
		for _, f := range p {
			fields = append(fields, at(field(f.Name, append([]string(nil), f.Lines...)...), append([]int(nil), f.At...)...))
		}
		all = append(all, fields)
	}
	return all
}

// Memory: what Parse answers is the caller's, its text stays as it was, and no two lists share memory or room.
func TestParseMemory(t *testing.T) {
	const source = "A: 1\n x\n y\nB: 2\nC: 3\n\nD: 4\n z\n"
	text := samples.Roomy([]byte(source), '!')
	got, _, _ := stanza.Parse(text)
	want := copyOf(got)
	if whole := text[:len(source)+2]; string(whole) != source+"!!" {
		t.Errorf("Memory: Parse writes into its text: %q", whole)
	}
	for i := range text {
		text[i] = 'z'
	}
	if !reflect.DeepEqual(got, want) {
		t.Errorf("Memory: what is written over the text changes the answer: %#v", got)
	}
	other, _, _ := stanza.Parse([]byte(source))
	for i := range got {
		for j := range got[i] {
			f := got[i][j]
			_, _, _ = append(f.Lines, "more", "more"), append(f.At, -1, -1), append(got[i], field("more"))
			if !reflect.DeepEqual(got, want) || !reflect.DeepEqual(other, want) {
				t.Fatalf("Memory: room of a list is another one's: %#v", got)
			}
		}
	}
	for i := range got {
		for j := range got[i] {
			f := got[i][j]
			f.Lines[0], f.At[0] = "over", -1
			want[i][j].Lines[0], want[i][j].At[0] = "over", -1
			if !reflect.DeepEqual(got, want) {
				t.Fatalf("Memory: what is written into a list changes another one: %#v", got)
			}
		}
	}
	if again, _, _ := stanza.Parse([]byte(source)); !reflect.DeepEqual(again, other) {
		t.Errorf("Same again: Parse answers %#v and %#v", again, other)
	}
}
