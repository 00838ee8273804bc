package history_test

import (
	"fmt"
	"math"
	"math/rand/v2"
	"strings"
	"testing"

	"larder/api"
	"larder/debver"
	"larder/history"
	"larder/relation"
	"larder/samples"
)

// P22.5: Text of entries that the document names, whether they may be or not.
func TestText(t *testing.T) {
	t.Parallel()
	for _, c := range []struct {
		what string
		l    []api.Entry
		want string
	}{
		{"no entries", nil, ""},
		{"the example", entriesOf("3 3 -aa=1"), "3 3 -aa=1\n"},
		{"no keys", entriesOf("1 1; 0 0; 7 2"), "1 1\n0 0\n7 2\n"},
		{"Out alone, In alone, both", entriesOf("1 1 -aa=1 -bb=2; 2 1 +cc=1 +dd=2; 3 3 -aa=1 +aa=2"), "1 1 -aa=1 -bb=2\n2 1 +cc=1 +dd=2\n3 3 -aa=1 +aa=2\n"},
		{"numbers below 0", []api.Entry{{Seq: -1, Group: 2}, {Seq: 3, Group: -40}, {Seq: math.MinInt, Group: math.MinInt}}, "-1 2\n3 -40\n-9223372036854775808 -9223372036854775808\n"},
		{"great numbers", []api.Entry{{Seq: api.MaxSeq, Group: api.MaxSeq + 1}, {Seq: math.MaxInt}}, "281474976710655 281474976710656\n9223372036854775807 0\n"},
		{"keys as they stand", []api.Entry{{Out: samples.Keys("bb=1 aa=1 aa=1"), In: samples.Keys("aa=1:2-3 zz=0~")}}, "0 0 -bb=1 -aa=1 -aa=1 +aa=1:2-3 +zz=0~\n"},
		{"keys that may not be", []api.Entry{{Out: []api.Key{{}, {Name: "a b", Version: "\n"}}, In: []api.Key{{Name: "=", Version: "="}, {Name: "\xff", Version: "ä"}}}}, "0 0 -= -a b=\n +=== +\xff=ä\n"},
	} {
		if got := history.Text(c.l); got != c.want || got != textOf(c.l) {
			t.Errorf("P22.5: %s: Text = %q, want %q", c.what, got, c.want)
		}
	}
	for _, c := range tales() {
		s := played(api.State{}, c.works...)
		if got := history.Text(s.Past); got != textOf(s.Past) || holdParse(t, got) != api.OK {
			t.Errorf("P22.5: %s: Text = %q", c.what, got)
		}
	}
}

// P22.5: Parse of what the document names: the entries, or the line that is wrong.
func TestParse(t *testing.T) {
	t.Parallel()
	long := strings.Repeat("n", 128)
	high := "1" + strings.Repeat("0", 255)
	for _, c := range []struct {
		what, text string
		entries    string
		line       int
	}{
		{"no text", "", "", 0},
		{"a line without keys", "1 1\n", "1 1", 0},
		{"numbers that are 0", "0 0\n", "0 0", 0},
		{"a Group above its number", "1 2\n", "1 2", 0},
		{"numbers that fall", "5 5\n3 4\n", "5 5; 3 4", 0},
		{"the highest number", "281474976710655 281474976710655\n", "281474976710655 281474976710655", 0},
		{"Out", "1 1 -aa=1\n", "1 1 -aa=1", 0},
		{"In", "1 1 +aa=1\n", "1 1 +aa=1", 0},
		{"all", "1 1\n2 1 -bb=1 -aa=1 +cc=1 +cc=1\n", "1 1; 2 1 -bb=1 -aa=1 +cc=1 +cc=1", 0},
		{"names and versions of all bytes", "1 1 -0+-.z=1:2.a+~-:-0~ +9-=0\n", "1 1 -0+-.z=1:2.a+~-:-0~ +9-=0", 0},
		{"a name and a version as long as may be", "1 1 -" + long + "=" + high + "\n", "1 1 -" + long + "=" + high, 0},

		{"one number above the highest", "281474976710656 1\n", "", 1},
		{"one Group above the highest", "1 281474976710656\n", "", 1},
		{"more than an int", "99999999999999999999 1\n", "", 1},
		{"an int's end", "9223372036854775808 1\n", "", 1},
		{"around an int's end", "1 18446744073709551617\n", "", 1},
		{"a 0 ahead", "01 1\n", "", 1},
		{"a 0 ahead of a Group", "1 00\n", "", 1},
		{"a sign", "+1 1\n", "", 1},
		{"a Group with a sign", "1 +1\n", "", 1},
		{"a number below 0", "-1 1\n", "", 1},
		{"a Group below 0", "1 -1\n", "", 1},
		{"a nought below 0", "-0 0\n", "", 1},
		{"no number", "x 1\n", "", 1},
		{"a number of another base", "0x1 1\n", "", 1},
		{"a number with a line below", "1_0 1\n", "", 1},
		{"digits that are none of ours", "１ 1\n", "", 1},
		{"no Group", "1\n", "", 1},
		{"no Group, but a blank", "1 \n", "", 1},
		{"a key for a Group", "1 -aa=1\n", "", 1},
		{"a third number", "1 1 1\n", "", 1},
		{"an empty line", "\n", "", 1},
		{"a line of a blank", " \n", "", 1},
		{"a line of two blanks", "  \n", "", 1},

		{"no end", "1 1", "", 1},
		{"no end of the last line", "1 1\n2 2\n3 3", "", 3},
		{"no end, and wrong", "1 1\n2 x", "", 2},
		{"an end of two bytes", "1 1\r\n", "", 1},
		{"a blank ahead", " 1 1\n", "", 1},
		{"a blank behind", "1 1 \n", "", 1},
		{"a blank behind a key", "1 1 +aa=1 \n", "", 1},
		{"two blanks between numbers", "1  1\n", "", 1},
		{"two blanks ahead of a key", "1 1  +aa=1\n", "", 1},
		{"two blanks between keys", "1 1 -aa=1  +aa=1\n", "", 1},
		{"no blank between keys", "1 1 -aa=1+aa=1\n", "", 1},
		{"no blank ahead of a key", "1 1-aa=1\n", "", 1},
		{"a blank behind a sign", "1 1 - aa=1\n", "", 1},
		{"blanks about the sign between", "1 1 -aa =1\n", "", 1},
		{"a tab for a blank", "1\t1\n", "", 1},
		{"a tab ahead of a key", "1 1\t-aa=1\n", "", 1},

		{"no sign", "1 1 aa=1\n", "", 1},
		{"another sign", "1 1 *aa=1\n", "", 1},
		{"two signs", "1 1 --aa=1\n", "", 1},
		{"two signs that are not one", "1 1 +-aa=1\n", "", 1},
		{"a sign alone", "1 1 -\n", "", 1},
		{"no version", "1 1 -aa\n", "", 1},
		{"an empty version", "1 1 -aa=\n", "", 1},
		{"an empty name", "1 1 -=1\n", "", 1},
		{"neither", "1 1 +=\n", "", 1},
		{"two signs between", "1 1 +aa==1\n", "", 1},
		{"two versions", "1 1 +aa=1=1\n", "", 1},
		{"a short name", "1 1 +a=1\n", "", 1},
		{"a name that begins wrong", "1 1 +.a=1\n", "", 1},
		{"a name with a great letter", "1 1 +aA=1\n", "", 1},
		{"a name one byte too long", "1 1 +" + long + "n=1\n", "", 1},
		{"a version that is none", "1 1 +aa=x\n", "", 1},
		{"a version that ends wrong", "1 1 +aa=1-\n", "", 1},
		{"a version one byte too long", "1 1 +aa=" + high + "0\n", "", 1},
		{"an Out behind an In", "1 1 +aa=1 -bb=1\n", "", 1},
		{"an Out between", "1 1 -aa=1 +bb=1 -cc=1 +dd=1\n", "", 1},

		{"wrong in the first line", "1 x\n2 2\n3 x\n", "", 1},
		{"wrong in the second line", "1 1 -aa=1 +bb=1\n2 2 +a=1\n3 x\n", "", 2},
		{"wrong in the third line", "1 1\n2 2\n\n4 4\n", "", 3},
		{"an empty line behind", "1 1\n\n", "", 2},
	} {
		l, line, e := history.Parse(c.text)
		want := api.OK
		if c.line > 0 {
			want = api.ErrHisWhich
		}
		if e != want || line != c.line || told(l) != told(entriesOf(c.entries)) {
			t.Errorf("P22.5: %s: Parse = %v, %d, %d", c.what, l, line, e)
		}
		holdParse(t, c.text)
	}
}

// P22.5: all texts of few pieces.
func TestSmallTexts(t *testing.T) {
	t.Parallel()
	counts := map[api.Errno]int{}
	for _, text := range samples.Texts([]string{"1", "0 3", " -aa=1", " +bb=2", "\n", " ", "=", "-"}, 6) {
		counts[holdParse(t, text)]++
	}
	for _, text := range samples.Texts([]string{"0", "7", " ", "\n", "+", "aa=1"}, 7) {
		counts[holdParse(t, text)]++
	}
	if counts[api.OK] < 200 || counts[api.ErrHisWhich] < 100000 {
		t.Errorf("small texts are answered %v", counts)
	}
}

// P22.5: each byte of a text changed to each other one, left away, and each one put ahead of it.
func TestBytes(t *testing.T) {
	t.Parallel()
	counts := map[api.Errno]int{}
	for _, text := range []string{"10 7 -aa=1:1-1 +b.=2~\n", "1 1\n281474976710655 20 +a1=1\n3 3\n", "0 0 -aa=1 -bb=1\n"} {
		if holdParse(t, text) != api.OK {
			t.Fatalf("%q is no text", text)
		}
		for i := range len(text) + 1 {
			holdParse(t, text[:i])
			for b := range 256 {
				counts[holdParse(t, text[:i]+string([]byte{byte(b)})+text[i:])]++
				if i < len(text) {
					counts[holdParse(t, text[:i]+string([]byte{byte(b)})+text[i+1:])]++
				}
			}
			if i < len(text) {
				counts[holdParse(t, text[:i]+text[i+1:])]++
			}
		}
	}
	if counts[api.OK] < 1000 || counts[api.ErrHisWhich] < 10000 {
		t.Errorf("changed texts are answered %v", counts)
	}
}

// P22.5: the names are those that relation takes, the versions those that debver takes.
func TestNamesAndVersions(t *testing.T) {
	t.Parallel()
	counts := map[bool]int{}
	for _, name := range samples.Texts([]string{"a", "Z", "0", "+", "-", ".", "_", "\xc3\xa4"}, 4) {
		_, _, e := history.Parse("1 1 -" + name + "=1\n")
		if is := relation.CheckName(name) == api.OK; is != (e == api.OK) {
			t.Errorf("P22.5: the name %q: %d", name, e)
		}
		counts[e == api.OK]++
	}
	for _, version := range samples.Texts([]string{"1", "a", "Z", "~", "+", ".", ":", "-", "_"}, 5) {
		_, _, e := history.Parse("1 1 +aa=" + version + "\n")
		if _, f := debver.Parse(version); (f == api.OK) != (e == api.OK) {
			t.Errorf("P22.5: the version %q: %d", version, e)
		}
		counts[e == api.OK]++
	}
	if counts[true] < 2000 || counts[false] < 2000 {
		t.Errorf("names and versions are taken %v", counts)
	}
}

// P22.5: mixed lines, most of them right.
func TestMixedTexts(t *testing.T) {
	t.Parallel()
	r := rand.New(rand.NewPCG(22, 5))
	counts := map[api.Errno]int{}
	words := []string{" -aa=1", " -bb=2:1-1", " -a+.9=0~", " -aa=1", " +aa=2", " +zz=1.0", " +zz=1.0", " +aa=1+b", " -", "+", " +a=1", " =", "\n", " 7", " +aa=1 -bb=1"}
	for range 30000 {
		text := ""
		for range r.IntN(5) {
			text += fmt.Sprint(r.IntN(20), " ", r.Uint64()>>(r.IntN(64)))
			sign := r.IntN(6)
			for range r.IntN(6) {
				switch {
				case r.IntN(60) == 0:
					text += words[r.IntN(len(words))]
				case sign > 0:
					text += words[r.IntN(4)]
					sign--
				default:
					text += words[4+r.IntN(4)]
				}
			}
			if r.IntN(40) > 0 {
				text += "\n"
			}
		}
		counts[holdParse(t, text)]++
	}
	if counts[api.OK] < 10000 || counts[api.ErrHisWhich] < 5000 {
		t.Errorf("mixed texts are answered %v", counts)
	}
}

// P22.5: a text of as many bytes as one may have, and of one more, which Text may tell.
func TestLongTexts(t *testing.T) {
	t.Parallel()
	most := make([]api.Entry, api.MaxInput/4)
	for i := range most {
		most[i] = api.Entry{Seq: i % 10, Group: 9 - i%10}
	}
	whole := history.Text(most)
	l, line, e := history.Parse(whole)
	if len(whole) != api.MaxInput || e != api.OK || line != 0 || !sameEntries(l, most) {
		t.Errorf("P22.5: Parse of %d bytes = %d entries, %d, %d", len(whole), len(l), line, e)
	}
	most[7].Seq = 10
	text := history.Text(most)
	if l, line, e := history.Parse(text); len(text) != api.MaxInput+1 || e != api.ErrLong || line != 0 || l != nil {
		t.Errorf("P22.5: Parse of %d bytes = %d entries, %d, %d", len(text), len(l), line, e)
	}
	for _, c := range []struct {
		what, text string
		line       int
		e          api.Errno
	}{
		{"wrong in its last line", whole[:len(whole)-4] + "1 x\n", api.MaxInput / 4, api.ErrHisWhich},
		{"without its last end", whole[:len(whole)-1] + " ", api.MaxInput / 4, api.ErrHisWhich},
		{"wrong in its first line", "x" + whole[1:], 1, api.ErrHisWhich},
		{"wrong in its first line, and too long", "x" + text[1:], 0, api.ErrLong},
		{"of blanks alone", strings.Repeat(" ", api.MaxInput), 1, api.ErrHisWhich},
		{"of ends alone", strings.Repeat("\n", api.MaxInput), 1, api.ErrHisWhich},
		{"of digits alone", strings.Repeat("1", api.MaxInput-1) + "\n", 1, api.ErrHisWhich},
		{"of a long name", "1 1 -" + strings.Repeat("a", api.MaxInput-8) + "=1\n", 1, api.ErrHisWhich},
	} {
		if l, line, e := history.Parse(c.text); e != c.e || line != c.line || l != nil {
			t.Errorf("P22.5: a long text %s, of %d bytes: %d entries, %d, %d", c.what, len(c.text), len(l), line, e)
		}
	}
}

// P22.5: one line of as many keys as there may be.
func TestLongLine(t *testing.T) {
	t.Parallel()
	const n = (api.MaxInput - len("11 1\n")) / len(" -aa=1") / 2
	entry := api.Entry{Seq: 11, Group: 1}
	for range n {
		entry.Out = append(entry.Out, api.Key{Name: "aa", Version: "1"})
		entry.In = append(entry.In, api.Key{Name: "bb", Version: "2"})
	}
	text := history.Text([]api.Entry{entry})
	l, line, e := history.Parse(text)
	if len(text) != 5+12*n || e != api.OK || line != 0 || !sameEntries(l, []api.Entry{entry}) {
		t.Errorf("P22.5: Parse of %d keys = %d entries, %d, %d", 2*n, len(l), line, e)
	}
	if l, line, e := history.Parse(text[:len(text)-2] + "x\n"); e != api.ErrHisWhich || line != 1 || l != nil {
		t.Errorf("P22.5: Parse of %d keys, the last wrong = %d, %d", 2*n, line, e)
	}
}
