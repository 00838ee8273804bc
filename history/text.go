package history

import (
	"strconv"
	"strings"

	"larder/api"
	"larder/index"
)

// What stands ahead of a key.
const (
	signOut = "-"
	signIn  = "+"
)

// Text tells entries as lines.
func Text(l []api.Entry) string {
	var text strings.Builder
	for _, entry := range l {
		text.WriteString(strconv.Itoa(entry.Seq))
		text.WriteString(" ")
		text.WriteString(strconv.Itoa(entry.Group))
		writeKeys(&text, signOut, entry.Out)
		writeKeys(&text, signIn, entry.In)
		text.WriteString("\n")
	}
	return text.String()
}

func writeKeys(text *strings.Builder, sign string, keys []api.Key) {
	for _, key := range keys {
		for _, piece := range []string{" ", sign, key.Name, "=", key.Version} {
			text.WriteString(piece)
		}
	}
}

// Parse reads them.
func Parse(text string) ([]api.Entry, int, api.Errno) {
	if len(text) > api.MaxInput {
		return nil, 0, api.ErrLong
	}
	var list []api.Entry
	for text != "" {
		line, rest, ended := strings.Cut(text, "\n")
		entry, ok := readEntry(line)
		if !ended || !ok {
			return nil, len(list) + 1, api.ErrHisWhich
		}
		list = append(list, entry)
		text = rest
	}
	return list, 0, api.OK
}

// readEntry reads a line without its end.
func readEntry(line string) (api.Entry, bool) {
	words := strings.Split(line, " ")
	if len(words) < 2 {
		return api.Entry{}, false
	}
	seq, isSeq := readNumber(words[0])
	group, isGroup := readNumber(words[1])
	out, rest := readKeys(words[2:], signOut)
	in, rest := readKeys(rest, signIn)
	if !isSeq || !isGroup || len(rest) > 0 {
		return api.Entry{}, false
	}
	return api.Entry{Seq: seq, Group: group, Out: out, In: in}, true
}

// readNumber reads a number of a commit. (It is told again, since strconv takes a sign and noughts ahead.)
func readNumber(word string) (int, bool) {
	n, err := strconv.Atoi(word)
	return n, err == nil && n >= 0 && n <= api.MaxSeq && strconv.Itoa(n) == word
}

// readKeys reads words up to the first one that is no key with a sign ahead; from there on all are left.
func readKeys(words []string, sign string) (keys []api.Key, left []string) {
	for i, word := range words {
		key, ok := readKey(word, sign)
		if !ok {
			return keys, words[i:]
		}
		keys = append(keys, key)
	}
	return keys, nil
}

func readKey(word, sign string) (api.Key, bool) {
	text, signed := strings.CutPrefix(word, sign)
	name, version, _ := strings.Cut(text, "=")
	key := api.Key{Name: name, Version: version}
	return key, signed && isKey(key)
}

// isKey tells whether a name and a version may be a package's: an index has then just these two to check.
func isKey(key api.Key) bool {
	_, e := index.Check([]api.Package{{Name: key.Name, Version: key.Version}})
	return e == api.OK
}
