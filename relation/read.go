package relation

import (
	"strings"

	"larder/api"
)

// blanks are the bytes that may stand between the parts of a relation's text.
const blanks = " \t\n"

// ParseAtom reads a name with a constraint.
func ParseAtom(s string) (api.Atom, api.Errno) {
	if len(s) > api.MaxInput {
		return api.Atom{}, api.ErrLong
	}
	name, rest := cutName(strings.Trim(s, blanks))
	if e := CheckName(name); e != api.OK {
		return api.Atom{}, e
	}
	if rest == "" {
		return api.Atom{Name: name}, api.OK
	}
	op, version, e := readConstraint(rest)
	if e != api.OK {
		return api.Atom{}, e
	}
	return api.Atom{Name: name, Op: op, Version: version}, api.OK
}

// ParseClause reads alternatives.
func ParseClause(s string) (api.Clause, api.Errno) {
	return readRow(s, "|", api.MaxChoices, ParseAtom)
}

// ParseField reads a row of clauses.
func ParseField(s string) ([]api.Clause, api.Errno) { return readField(s, ParseClause) }

// ParseAtoms reads a row of atoms.
func ParseAtoms(s string) ([]api.Atom, api.Errno) { return readField(s, ParseAtom) }

// ParseNames reads a row of names.
func ParseNames(s string) ([]string, api.Errno) { return readField(s, readName) }

// readField reads a row with commas, which may also be empty, as no other row is.
func readField[T any](s string, readPiece func(string) (T, api.Errno)) ([]T, api.Errno) {
	if len(s) <= api.MaxInput && strings.Trim(s, blanks) == "" {
		return nil, api.OK
	}
	return readRow(s, ",", api.MaxClauses, readPiece)
}

// readRow reads the pieces of a text, from the left, of which there may be so many.
func readRow[T any](s, between string, most int, readPiece func(string) (T, api.Errno)) ([]T, api.Errno) {
	if len(s) > api.MaxInput {
		return nil, api.ErrLong
	}
	count := strings.Count(s, between) + 1
	if count > most {
		return nil, api.ErrRelMany
	}
	list := make([]T, 0, count)
	for _, text := range strings.Split(s, between) {
		piece, e := readPiece(text)
		if e != api.OK {
			return nil, e
		}
		list = append(list, piece)
	}
	return list, api.OK
}

func readName(s string) (string, api.Errno) {
	name := strings.Trim(s, blanks)
	if e := CheckName(name); e != api.OK {
		return "", e
	}
	return name, api.OK
}

// cutName cuts an atom's text into what stands in the name's place and what follows, without blanks.
func cutName(s string) (string, string) {
	end := strings.IndexAny(s, blanks+"(")
	if end < 0 {
		return s, ""
	}
	return s[:end], strings.TrimLeft(s[end:], blanks)
}

// readConstraint reads an operator and a version in brackets.
func readConstraint(s string) (int, string, api.Errno) {
	within, ok := cutBrackets(s)
	if !ok {
		return 0, "", api.ErrRelForm
	}
	rest := strings.TrimLeft(within, "<=>")
	op, ok := operator(within[:len(within)-len(rest)])
	if !ok {
		return 0, "", api.ErrRelOp
	}
	version := strings.TrimLeft(rest, blanks)
	if !isVersion(version) {
		return 0, "", api.ErrRelVersion
	}
	return op, version, api.OK
}

// cutBrackets tells what stands within a text's brackets, without blanks at its ends; false, if the text is not one pair of them.
func cutBrackets(s string) (string, bool) {
	s, opened := strings.CutPrefix(s, "(")
	s, closed := strings.CutSuffix(s, ")")
	if !opened || !closed || strings.ContainsAny(s, "()") {
		return "", false
	}
	return strings.Trim(s, blanks), true
}

// operator tells which operator a sign is.
func operator(sign string) (int, bool) {
	for op := api.OpLess; op <= api.OpMore; op++ {
		if signs[op] == sign {
			return op, true
		}
	}
	return 0, false
}
