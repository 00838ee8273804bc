package shell_test

import (
	"regexp"
	"slices"
	"strings"
	"testing"

	"larder/samples"
	"larder/shell"
)

func TestWords(t *testing.T) {
	for _, c := range []struct {
		line string
		want []string
	}{
		{"", nil},
		{" ", nil},
		{"     ", nil},
		{"a", []string{"a"}},
		{" a", []string{"a"}},
		{"a ", []string{"a"}},
		{"  apply   +aa  ^ ", []string{"apply", "+aa", "^"}},
		{"# a note", []string{"#", "a", "note"}},
		{"!~ ~!", []string{"!~", "~!"}},
		{"raw t/x -", []string{"raw", "t/x", "-"}},
	} {
		if got, is := shell.Words(c.line); !is || !slices.Equal(got, c.want) {
			t.Errorf("P24.1: Words(%q) = %q, %v", c.line, got, is)
		}
	}
	for _, line := range []string{"\t", "a\tb", " \t ", "list\r", "\r", "a\n", "\n", "\x00", "a b \x1f", "\x7f", "caf\u00e9", "\x80", "\xff", "a\u00a0b", "a\u2003b", "\u0085", "\v", "\f"} {
		if got, is := shell.Words(line); is || got != nil {
			t.Errorf("P24.1: Words(%q) = %q, %v", line, got, is)
		}
	}
}

// P24.1: each byte, ahead of, within and behind a word, and alone.
func TestWordsOfBytes(t *testing.T) {
	for b := range 256 {
		text := string([]byte{byte(b)})
		for _, c := range []struct{ ahead, behind string }{{"", ""}, {"a", ""}, {"", "a"}, {"a", "a"}, {" ", " "}, {"a ", ""}} {
			line := c.ahead + text + c.behind
			var want []string
			plain := b >= 0x21 && b <= 0x7e
			switch {
			case plain:
				want = strings.Fields(line)
			case b == ' ':
				want = strings.Fields(c.ahead + " " + c.behind)
			}
			if got, is := shell.Words(line); is != (plain || b == ' ') || !slices.Equal(got, want) {
				t.Errorf("P24.1: Words(%q) = %q, %v", line, got, is)
			}
		}
	}
}

// P24.1: all lines of a few pieces, against another telling.
func TestWordsOfPieces(t *testing.T) {
	plain, word := regexp.MustCompile(`^[ -~]*$`), regexp.MustCompile(`[^ ]+`)
	for _, line := range samples.Texts([]string{" ", "a", "~", "!", "\t", "\x7f", "\x1f", "é"}, 5) {
		var want []string
		if plain.MatchString(line) {
			want = word.FindAllString(line, -1)
		}
		if got, is := shell.Words(line); is != plain.MatchString(line) || !slices.Equal(got, want) {
			t.Errorf("P24.1: Words(%q) = %q, %v, want %q", line, got, is, want)
		}
	}
}

// What is answered is new memory.
func TestWordsApart(t *testing.T) {
	const line = "apply +aa"
	first, _ := shell.Words(line)
	samples.Fill(first, "spoiled")
	if again, _ := shell.Words(line); !slices.Equal(again, []string{"apply", "+aa"}) || !samples.Apart(first, again) {
		t.Errorf("Words again = %q", again)
	}
}

// forms are those of the words behind each command's, a letter each; with a * behind it: any number of them.
var forms = map[string]string{
	"index": "", "make": "",
	"apply": "Q*", "plan": "Q*", "sweep": "", "undo": "", "hold": "W", "free": "W", "pin": "AN", "unpin": "", "budget": "N", "forget": "",
	"list": "", "paths": "", "cat": "W", "owner": "W", "orphans": "", "history": "", "seq": "", "why": "W", "blame": "Q*", "audit": "", "repair": "", "mark": "WM",
	"fuse": "N", "crash": "N*", "reopen": "", "capacity": "N", "raw": "WX", "loss": "W", "sync": "", "files": "", "calls": "",
}

// right and wrong are words that have a form, and that have it not.
var (
	right = map[byte][]string{
		'W': {"aa", "+", "-", "#", "^", "=", "~", "!", "01", "end", "list", "A-Z/a.z", strings.Repeat("w", 5000)},
		'N': {"0", "1", "9", "10", "1000000", "1152921504606846975", "1152921504606846976"},
		'X': {"-", "00", "ff", "0123456789abcdef", strings.Repeat("0a", 3000)},
		'A': {"aa", "aa<<1", "aa<=1", "aa=1", "aa>=1", "aa>>1", "*", "a", "AA", "+", "-", "^", "aa==1", "aa=1=2", "aa=>1", "aa=<1", "aa=<<1", "aa<<<1", "aa<<=1", "aa>>=1", "aa>=>", "aa<==", "aa=-", "!=!"},
		'Q': {"^", "+aa", "-aa", "+aa<<1", "-aa<=1", "+aa=1", "-aa>=1", "+aa>>1", "++", "--", "+-", "-+", "+^", "-^", "+*", "+aa=1=2", "-aa==1", "+aa=>1"},
		'M': {"manual", "auto"},
	}
	wrong = map[byte][]string{
		'N': {"00", "01", "007", "010", "1152921504606846977", "1152921504606846980", "2000000000000000000", "9223372036854775807", "9223372036854775808", "18446744073709551616", "99999999999999999999999", "-1", "+1", "-0", "-", "1.0", "1_0", "0x1", "1e3", "a", "1a", "a1"},
		'X': {"0", "000", "0g", "g0", "FF", "aF", "Fa", "--", "-0", "0-", "-00", "0x00", "+0", "00-", ":0", "/0", "@0", "`0"},
		'A': {"=", "<", ">", "<<", "<=", ">=", ">>", "=1", "<<1", "<=1", ">=1", ">>1", "aa=", "aa<<", "aa<=", "aa>=", "aa>>", "aa<", "aa>", "aa<1", "aa>1", "aa<>1", "aa><1", "aa<>=1", "aa<1=2", "==", "=="},
		'Q': {"aa", "+", "-", "^^", "^aa", "^+aa", "*aa", "=aa", "+=1", "-=1", "+aa=", "-aa<<", "+aa<1", "-aa>1", "+<<1", "-=", "aa=1", "~aa", "0"},
		'M': {"x", "Manual", "AUTO", "0", "1", "manua", "autoo", "-", "manual,auto"},
	}
)

// takes tells whether a line is a command. (A block that it begins is a package's.)
func takes(line string) bool {
	return !strings.HasPrefix(tells(line+"\nPackage: aa\nVersion: 1\nend"), "error 240\n")
}

// lineOf tells a command with so many words behind it, of those that have its form.
func lineOf(word string, n int) string {
	line := word
	form := forms[word]
	for i := range n {
		letter := byte('W')
		if i < len(form) && form[i] != '*' {
			letter = form[i]
		} else if len(form) > 0 {
			letter = form[0]
		}
		line += " " + right[letter][i%2]
	}
	return line
}

// P24.2: each command with its words, with fewer, with more; by other names.
func TestCommands(t *testing.T) {
	for word, form := range forms {
		for n := range 5 {
			want := n == len(form)
			if strings.HasSuffix(form, "*") {
				want = true
			}
			if line := lineOf(word, n); takes(line) != want {
				t.Errorf("P24.2: %q is a command: %v", line, !want)
			}
		}
		well := lineOf(word, len(form))
		if strings.HasSuffix(form, "*") {
			well = lineOf(word, 2)
		}
		for _, line := range []string{"x" + well, well[1:], strings.ToUpper(well[:1]) + well[1:], "+" + well, well + "\t", "\t" + well, well + "\r", well + "\x00", well + "\x7f", well + "\x80", strings.Replace(well, " ", "\t", 1) + "\v"} {
			if takes(line) {
				t.Errorf("P24.2: %q is a command", line)
			}
		}
		for _, line := range []string{" " + well, well + " ", "   " + well + "  ", strings.ReplaceAll(well, " ", "    ")} {
			if !takes(line) {
				t.Errorf("P24.1: %q is no command", line)
			}
		}
	}
}

// P24.1: of each command each word, of its form and of none.
func TestForms(t *testing.T) {
	for word, form := range forms {
		letters, many := strings.CutSuffix(form, "*")
		for i := range letters {
			line := strings.Split(lineOf(word, len(letters)), " ")
			for _, list := range []struct {
				words []string
				want  bool
			}{{right[letters[i]], true}, {wrong[letters[i]], false}} {
				for _, one := range list.words {
					line[i+1] = one
					if got := takes(strings.Join(line, " ")); got != list.want {
						t.Errorf("P24.1: %.80q is a command: %v", line, got)
					}
					if also := append(slices.Clone(line), line[i+1], right[letters[i]][0]); many && takes(strings.Join(also, " ")) != list.want {
						t.Errorf("P24.1: %.80q is a command: %v", also, !list.want)
					}
				}
			}
		}
	}
}

// P24.2: lines that tell nothing.
func TestQuietLines(t *testing.T) {
	for _, line := range []string{"", " ", "    ", "#", "# a note", "#list", "# \t\x00\x7f\xff caf\u00e9 \r", "##"} {
		for _, script := range []string{line, line + "\n", "\n" + line, line + "\n" + line + "\n\n"} {
			if got := tells(script); got != "" {
				t.Errorf("P24.2: %q tells %q", script, got)
			}
		}
		if got := tells("seq\n" + line + "\nseq"); got != "ok 0\nok 0\n" {
			t.Errorf("P24.2: seq, %q, seq tell %q", line, got)
		}
	}
	for _, line := range []string{" #", " # a note", "\t", "\t#", "\r", "!", "end", " end", "list;", "list#", "x # list", "-", "+x 00", "Package: aa"} {
		if got := tells("seq\n" + line + "\nseq"); got != "ok 0\nerror 240\nok 0\n" {
			t.Errorf("P24.2: seq, %q, seq tell %q", line, got)
		}
	}
	for script, want := range map[string]string{"": "", "\n": "", "seq": "ok 0\n", "seq\n": "ok 0\n", "\nseq\n\n": "ok 0\n", "seq\n\nseq": "ok 0\nok 0\n", "seq\r\nseq": "error 240\nok 0\n"} {
		if got := tells(script); got != want {
			t.Errorf("P24.2: %q tells %q", script, got)
		}
	}
}
