package shell

import (
	"strconv"
	"strings"

	"larder/api"
)

// mostNumber is the greatest number that a word may tell.
const mostNumber = 1 << 60

// noData is the word for no bytes.
const noData = "-"

// digits are those of data.
const digits = "0123456789abcdef"

// operators are those of an atom; none of them begins with another one.
var operators = [...]string{api.OpLess: "<<", api.OpAtMost: "<=", api.OpEqual: "=", api.OpAtLeast: ">=", api.OpMore: ">>"}

// marks are the words for marks.
var marks = [...]string{api.MarkManual: "manual", api.MarkAuto: "auto"}

// Words tells a line's words, or that it is none.
func Words(line string) ([]string, bool) {
	words := strings.FieldsFunc(line, func(r rune) bool { return r == ' ' })
	for _, word := range words {
		if !isPlain(word) {
			return nil, false
		}
	}
	return words, true
}

// isPlain tells whether a text has no bytes but those that a word may have.
func isPlain(text string) bool {
	for i := range len(text) {
		if text[i] <= ' ' || text[i] > '~' {
			return false
		}
	}
	return true
}

// value is what a word says; which of its fields counts, its form says.
type value struct {
	text   string
	number int
	data   []byte
	atom   api.Atom
	wish   api.Wish
}

// valueOf reads a word by the letter of its form. (M stands for a mark.)
func valueOf(letter byte, word string) (v value, is bool) {
	switch letter {
	case 'W':
		v.text, is = word, true
	case 'N':
		v.number, is = numberOf(word)
	case 'X':
		v.data, is = dataOf(word)
	case 'A':
		v.atom, is = atomOf(word)
	case 'Q':
		v.wish, is = wishOf(word)
	case 'M':
		v.number, is = markOf(word)
	}
	return v, is
}

// markOf reads a mark.
func markOf(word string) (int, bool) {
	for mark, text := range marks {
		if text == word {
			return mark, true
		}
	}
	return 0, false
}

// numberOf reads decimal digits without noughts ahead.
func numberOf(word string) (int, bool) {
	// A number has but one text: signs, noughts ahead and what else strconv takes are not in it.
	n, e := strconv.Atoi(word)
	return n, e == nil && n >= 0 && n <= mostNumber && strconv.Itoa(n) == word
}

// dataOf reads bytes.
func dataOf(word string) ([]byte, bool) {
	if word == noData {
		return nil, true
	}
	if len(word)%2 != 0 {
		return nil, false
	}
	data := make([]byte, len(word)/2)
	for i := range data {
		high, low := strings.IndexByte(digits, word[2*i]), strings.IndexByte(digits, word[2*i+1])
		if high < 0 || low < 0 {
			return nil, false
		}
		data[i] = byte(high<<4 | low)
	}
	return data, true
}

// dataText tells bytes as dataOf reads them.
func dataText(data []byte) string {
	if len(data) == 0 {
		return noData
	}
	text := make([]byte, 0, 2*len(data))
	for _, b := range data {
		text = append(text, digits[b>>4], digits[b&15])
	}
	return string(text)
}

// atomOf reads a name, or a name, an operator and a version.
func atomOf(word string) (api.Atom, bool) {
	end := strings.IndexAny(word, "<=>")
	if end < 0 {
		return api.Atom{Name: word}, word != ""
	}
	for op := api.OpLess; op <= api.OpMore; op++ {
		if version, is := strings.CutPrefix(word[end:], operators[op]); is {
			return api.Atom{Name: word[:end], Op: op, Version: version}, end > 0 && version != ""
		}
	}
	return api.Atom{}, false
}

// wishOf reads a wish.
func wishOf(word string) (api.Wish, bool) {
	if word == "^" {
		return api.Wish{Kind: api.WishUpgrade}, true
	}
	atom, is := atomOf(word[1:])
	switch word[0] {
	case '+':
		return api.Wish{Kind: api.WishInstall, Atom: atom}, is
	case '-':
		return api.Wish{Kind: api.WishRemove, Atom: atom}, is
	}
	return api.Wish{}, false
}

// keyText tells a package.
func keyText(k api.Key) string { return k.Name + "=" + k.Version }
