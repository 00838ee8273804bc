package relation

import (
	"strings"

	"larder/api"
)

// PrintAtom tells an atom's text.
func PrintAtom(a api.Atom) (string, api.Errno) {
	if e := Check(a); e != api.OK {
		return "", e
	}
	if a.Op == api.OpAny {
		return a.Name, api.OK
	}
	return a.Name + " (" + signs[a.Op] + " " + a.Version + ")", api.OK
}

// PrintClause tells a clause's text.
func PrintClause(c api.Clause) (string, api.Errno) {
	if len(c) == 0 {
		return "", api.ErrRelForm
	}
	return printRow(c, " | ", api.MaxChoices, PrintAtom)
}

// PrintField tells the text of a row of clauses.
func PrintField(l []api.Clause) (string, api.Errno) { return printField(l, PrintClause) }

// PrintAtoms tells the text of a row of atoms.
func PrintAtoms(l []api.Atom) (string, api.Errno) { return printField(l, PrintAtom) }

// PrintNames tells the text of a row of names.
func PrintNames(l []string) (string, api.Errno) { return printField(l, printName) }

func printField[T any](l []T, printPiece func(T) (string, api.Errno)) (string, api.Errno) {
	return printRow(l, ", ", api.MaxClauses, printPiece)
}

// printRow is the way back from readRow.
func printRow[T any](l []T, between string, most int, printPiece func(T) (string, api.Errno)) (string, api.Errno) {
	if len(l) > most {
		return "", api.ErrRelMany
	}
	texts := make([]string, 0, len(l))
	for _, piece := range l {
		text, e := printPiece(piece)
		if e != api.OK {
			return "", e
		}
		texts = append(texts, text)
	}
	s := strings.Join(texts, between)
	if len(s) > api.MaxInput {
		return "", api.ErrLong
	}
	return s, api.OK
}

func printName(name string) (string, api.Errno) {
	if e := CheckName(name); e != api.OK {
		return "", e
	}
	return name, api.OK
}
