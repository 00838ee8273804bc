package stanza_test

import (
	"reflect"
	"regexp"
	"slices"
	"strings"
	"testing"

	"larder/api"
	"larder/samples"
	"larder/stanza"
)

// field tells a field of these lines, as made by hand.
func field(name string, lines ...string) api.Field { return api.Field{Name: name, Lines: lines} }

// at tells a field with its lines' numbers.
func at(f api.Field, numbers ...int) api.Field {
	f.At = numbers
	return f
}

var (
	nameForm    = regexp.MustCompile(`^[!"$-,.-9;-~][!-9;-~]{0,127}$`)
	firstForm   = regexp.MustCompile(`^$|^[^\x00-\x20\x7f]$|^[^\x00-\x20\x7f][^\x00-\x08\x0a-\x1f\x7f]*[^\x00-\x20\x7f]$`)
	furtherForm = regexp.MustCompile(`^[^\x00-\x08\x0a-\x1f\x7f]*[^\x00-\x20\x7f]$`)
)

// oracleCheck says by regular expressions which fields may be.
func oracleCheck(f api.Field) api.Errno {
	if !nameForm.MatchString(f.Name) || len(f.Lines) == 0 || !firstForm.MatchString(f.Lines[0]) {
		return api.ErrStzForm
	}
	for _, line := range f.Lines[1:] {
		if !furtherForm.MatchString(line) {
			return api.ErrStzForm
		}
	}
	return api.OK
}

// P3.4: the edges of what a field may be.
func TestCheck(t *testing.T) {
	for _, c := range []struct {
		f    api.Field
		want api.Errno
	}{
		{field("A", "1"), api.OK},
		{field("A", ""), api.OK},
		{field("A", "", "x"), api.OK},
		{field("A", "1", " x"), api.OK},
		{field("A", "1", "\tx"), api.OK},
		{field("A", "1", "#", ":", "-"), api.OK},
		{field("A", "# : -"), api.OK},
		{field("A", "a \t b"), api.OK},
		{field("A", "\xff\x80é"), api.OK},
		{field("A", "1", "\xff"), api.OK},
		{field("A", "\u00a01\u2003", "\u0085x\u3000"), api.OK},
		{field("!", "1"), api.OK},
		{field("~", "1"), api.OK},
		{field("a#-", "1"), api.OK},
		{field(strings.Repeat("n", 128), "1"), api.OK},
		{at(field("A", "1"), -7, 0, 3), api.OK},

		{api.Field{}, api.ErrStzForm},
		{field("A"), api.ErrStzForm},
		{field("", "1"), api.ErrStzForm},
		{field("#", "1"), api.ErrStzForm},
		{field("-", "1"), api.ErrStzForm},
		{field(":", "1"), api.ErrStzForm},
		{field("a:", "1"), api.ErrStzForm},
		{field("a b", "1"), api.ErrStzForm},
		{field("a\n", "1"), api.ErrStzForm},
		{field("a\x7f", "1"), api.ErrStzForm},
		{field("é", "1"), api.ErrStzForm},
		{field(strings.Repeat("n", 129), "1"), api.ErrStzForm},
		{field("A", " "), api.ErrStzForm},
		{field("A", "\t"), api.ErrStzForm},
		{field("A", " 1"), api.ErrStzForm},
		{field("A", "\t1"), api.ErrStzForm},
		{field("A", "1 "), api.ErrStzForm},
		{field("A", "1\t"), api.ErrStzForm},
		{field("A", "1\n"), api.ErrStzForm},
		{field("A", "\n1"), api.ErrStzForm},
		{field("A", "1\r2"), api.ErrStzForm},
		{field("A", "1", ""), api.ErrStzForm},
		{field("A", "1", " "), api.ErrStzForm},
		{field("A", "1", "x "), api.ErrStzForm},
		{field("A", "1", "x\t"), api.ErrStzForm},
		{field("A", "1", "x\ny"), api.ErrStzForm},
		{field("A", "1", "x\x00y"), api.ErrStzForm},
		{field("A", "1", "x", ""), api.ErrStzForm},
	} {
		if got := stanza.Check(c.f); got != c.want {
			t.Errorf("P3.4: Check(%#v) = %d, want %d", c.f, got, c.want)
		}
	}
}

// P3.4: each byte in each place, by the regular expressions.
func TestCheckBytes(t *testing.T) {
	for b := range 256 {
		s := string([]byte{byte(b)})
		for _, text := range []string{s, s + "x", "x" + s, "x" + s + "x"} {
			for _, f := range []api.Field{field(text, "1"), field("A", text), field("A", "", text), field("A", "1", "2", text)} {
				if got, want := stanza.Check(f), oracleCheck(f); got != want {
					t.Errorf("P3.4: Check(%#v) = %d, want %d", f, got, want)
				}
			}
		}
	}
	for _, text := range samples.Texts([]string{"a", " ", "\t", "\n", "\x7f", "\xe9", ":", "#"}, 4) {
		for _, f := range []api.Field{field(text, "1"), field("A", text), field("A", "1", text)} {
			if got, want := stanza.Check(f), oracleCheck(f); got != want {
				t.Fatalf("P3.4: Check(%#v) = %d, want %d", f, got, want)
			}
		}
	}
}

// P3.5: the first field with a name alike, whatever the names are.
func TestGet(t *testing.T) {
	p := []api.Field{at(field("Aa", "1", "2"), 3, 5), field("B[", "x"), field("aA", "later"), field("É", "y"), field("\xff", "z"), field("K", "k"), field("", "none"), field("c\xff", "w")}
	for _, c := range []struct {
		name  string
		place int
	}{
		{"Aa", 0}, {"aa", 0}, {"AA", 0}, {"aA", 0}, {"b[", 1}, {"B[", 1}, {"É", 3}, {"\xff", 4}, {"k", 5}, {"", 6}, {"C\xff", 7},
		// A letter's case is that of a to z alone; other bytes that are 32 apart are two.
		{"b{", -1}, {"é", -1}, {"\xfe", -1}, {"\u212a", -1}, {"\ufffd", -1}, {"a", -1}, {"aaa", -1}, {"Aa:", -1}, {" aa", -1},
	} {
		want, found := api.Field{}, c.place >= 0
		if found {
			want = p[c.place]
		}
		if got, ok := stanza.Get(p, c.name); ok != found || !reflect.DeepEqual(got, want) {
			t.Errorf("P3.5: Get(%q) = %#v, %#v, want %#v, %#v", c.name, got, ok, want, found)
		}
	}
	if got, ok := stanza.Get(nil, "A"); ok || !reflect.DeepEqual(got, api.Field{}) {
		t.Errorf("P3.5: Get of nothing = %#v, %#v", got, ok)
	}
	for b := range 256 {
		for c := range 256 {
			x, y := string([]byte{byte(b)}), string([]byte{byte(c)})
			small := b
			if b >= 'A' && b <= 'Z' {
				small = b + 32
			}
			big := c
			if c >= 'A' && c <= 'Z' {
				big = c + 32
			}
			if _, ok := stanza.Get([]api.Field{field(x, "1")}, y); ok != (small == big) {
				t.Errorf("P3.5: are the names %q and %q alike? %#v", x, y, ok)
			}
		}
	}
}

// Memory: what Get answers is the caller's, and what it was given too.
func TestGetMemory(t *testing.T) {
	lines, numbers := samples.Roomy([]string{"1", "2"}, "beyond"), samples.Roomy([]int{3, 5}, 99)
	p := []api.Field{{Name: "A", Lines: lines, At: numbers}}
	got, _ := stanza.Get(p, "a")
	got.Lines[0], got.At[0] = "over", -1
	_, _ = append(got.Lines, "more"), append(got.At, -2)
	if !reflect.DeepEqual(lines[:4], []string{"1", "2", "beyond", "beyond"}) || !reflect.DeepEqual(numbers[:4], []int{3, 5, 99, 99}) {
		t.Errorf("Memory: what is written into Get's answer changes its argument: %q %#v", lines[:4], numbers[:4])
	}
	again, _ := stanza.Get(p, "a")
	lines[1], numbers[1] = "over", -1
	if !reflect.DeepEqual(again, at(field("A", "1", "2"), 3, 5)) {
		t.Errorf("Memory: what is written into Get's argument changes its answer: %#v", again)
	}
}

// P3.5: a byte 10 between two lines, nothing at the ends.
func TestJoined(t *testing.T) {
	for _, c := range []struct {
		f    api.Field
		want string
	}{
		{api.Field{}, ""}, {field("A", ""), ""}, {field("A", "1"), "1"}, {field("A", "1", " 2", "3"), "1\n 2\n3"}, {field("A", "", "x"), "\nx"}, {field("A", "", ""), "\n"}, {field("A", " a \n", "\xff\t"), " a \n\n\xff\t"},
	} {
		if got := stanza.Joined(c.f); got != c.want {
			t.Errorf("P3.5: Joined(%#v) = %q, want %q", c.f, got, c.want)
		}
	}
}

// P3.5: words are parted by blanks, bytes 10 and lines' ends, by nothing else.
func TestWords(t *testing.T) {
	for _, c := range []struct {
		f    api.Field
		want []string
	}{
		{api.Field{}, nil}, {field("A", ""), nil}, {field("A", " \t", "\n"), nil},
		{field("A", "1 2", " 3", "4\t5"), []string{"1", "2", "3", "4", "5"}},
		{field("A", "", "a", "b"), []string{"a", "b"}},
		{field("A", "a\nb \t\n c"), []string{"a", "b", "c"}},
		{field("A", "a\rb\vc\fd\x00e\u00a0f\u2028g\u0085h"), []string{"a\rb\vc\fd\x00e\u00a0f\u2028g\u0085h"}},
		{field("A", "\xff \xe2\x80", "\xa8"), []string{"\xff", "\xe2\x80", "\xa8"}},
	} {
		got := stanza.Words(c.f)
		if !slices.Equal(got, c.want) {
			t.Errorf("P3.5: Words(%#v) = %q, want %q", c.f, got, c.want)
		}
		again := stanza.Words(c.f)
		for i := range got {
			got[i] = "over"
		}
		if !slices.Equal(again, c.want) || !slices.Equal(stanza.Words(c.f), c.want) {
			t.Errorf("Memory: what is written into the answer of Words(%#v) is told again", c.f)
		}
	}
}

// P3.5: the same paragraphs, fields, names and lines; the numbers are not looked at.
func TestSame(t *testing.T) {
	base := [][]api.Field{{field("A", "1", "2"), field("B", "")}, {field("C", "3")}}
	for _, c := range []struct {
		a, b [][]api.Field
		want bool
	}{
		{nil, nil, true}, {nil, [][]api.Field{}, true}, {[][]api.Field{nil}, [][]api.Field{{}}, true}, {nil, [][]api.Field{{}}, false},
		{[][]api.Field{{field("A")}}, [][]api.Field{{{Name: "A", Lines: []string{}}}}, true},
		{base, base, true}, {base, nil, false}, {base, base[:1], false}, {base, base[1:], false},
		{base, [][]api.Field{{at(field("A", "1", "2"), 1, 2), at(field("B", ""), 7)}, {at(field("C", "3"), 9)}}, true},
		{base, [][]api.Field{{field("a", "1", "2"), field("B", "")}, {field("C", "3")}}, false},
		{base, [][]api.Field{{field("A", "1", "x"), field("B", "")}, {field("C", "3")}}, false},
		{base, [][]api.Field{{field("A", "1"), field("B", "")}, {field("C", "3")}}, false},
		{base, [][]api.Field{{field("A", "1", "2"), field("B")}, {field("C", "3")}}, false},
		{base, [][]api.Field{{field("B", ""), field("A", "1", "2")}, {field("C", "3")}}, false},
		{base, [][]api.Field{{field("A", "1", "2")}, {field("B", ""), field("C", "3")}}, false},
		{base, [][]api.Field{base[1], base[0]}, false},
		{base, [][]api.Field{{field("A", "1", "2"), field("B", ""), field("D", "")}, {field("C", "3")}}, false},
	} {
		if got := stanza.Same(c.a, c.b); got != c.want {
			t.Errorf("P3.5: Same(%#v, %#v) = %#v", c.a, c.b, got)
		}
		if got := stanza.Same(c.b, c.a); got != c.want {
			t.Errorf("P3.5: Same(%#v, %#v) = %#v", c.b, c.a, got)
		}
	}
}

// P3.5: 0 where At has none.
func TestLine(t *testing.T) {
	for _, c := range []struct {
		f       api.Field
		k, want int
	}{
		{at(field("A", "1", "2"), 3, 5), 0, 3}, {at(field("A", "1", "2"), 3, 5), 1, 5}, {at(field("A", "1", "2"), 3, 5), 2, 0}, {at(field("A", "1", "2"), 3, 5), -1, 0},
		{at(field("A", "1", "2"), 3), 0, 3}, {at(field("A", "1", "2"), 3), 1, 0}, {at(field("A", "1"), 3, 5), 1, 5},
		{field("A", "1"), 0, 0}, {api.Field{}, 0, 0}, {at(field("A", "1"), 3), 1 << 62, 0}, {at(field("A", "1"), 3), -1 << 63, 0},
	} {
		if got := stanza.Line(c.f, c.k); got != c.want {
			t.Errorf("P3.5: Line(%#v, %d) = %d, want %d", c.f, c.k, got, c.want)
		}
	}
}
