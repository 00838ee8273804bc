package stanza

import (
	"iter"
	"strings"

	"larder/api"
)

// The kinds of a line.
const (
	empty = iota
	comment
	folded
	first
)

// paragraph is one that is being read: its fields up to here, and their names in small letters, each with its line's number.
type paragraph struct {
	fields []api.Field
	names  map[string]int
}

// Parse reads a text's paragraphs; the number of the line that is wrong.
func Parse(text []byte) ([][]api.Field, int, api.Errno) {
	if len(text) > api.MaxInput {
		return nil, 0, api.ErrLong
	}
	var list [][]api.Field
	wrong, e := read(string(text), func(_ int, fields []api.Field) bool {
		list = append(list, fields)
		return true
	})
	if e != api.OK {
		return nil, wrong, e
	}
	return list, 0, api.OK
}

// Each gives a text's paragraphs, up to what is wrong, each with the number of its first line.
func Each(text []byte) iter.Seq2[int, []api.Field] {
	if len(text) > api.MaxInput {
		return func(func(int, []api.Field) bool) {}
	}
	// Kept as it is now: the caller may write over it before the paragraphs are gone through.
	kept := string(text)
	return func(yield func(int, []api.Field) bool) { read(kept, yield) }
}

// read hands on a text's paragraphs, each as soon as it is whole, till it is told to stop; it tells the first line that is wrong, and how.
func read(text string, yield func(int, []api.Field) bool) (int, api.Errno) {
	var open paragraph
	for number, line := range lines(text) {
		kind := kindOf(line)
		if kind == empty {
			if !open.handOn(yield) {
				return 0, api.OK
			}
			open = paragraph{}
			continue
		}
		if e := open.take(kind, number, line); e != api.OK {
			return number, e
		}
	}
	open.handOn(yield)
	return 0, api.OK
}

// lines gives a text's lines with their numbers.
func lines(text string) iter.Seq2[int, string] {
	return func(yield func(int, string) bool) {
		rest := text
		for number := 1; rest != ""; number++ {
			line, behind, _ := strings.Cut(rest, "\n")
			if !yield(number, line) {
				return
			}
			rest = behind
		}
	}
}

func kindOf(line string) int {
	if strings.Trim(line, blanks) == "" {
		return empty
	}
	switch line[0] {
	case '#':
		return comment
	case ' ', '\t':
		return folded
	}
	return first
}

// handOn hands on a paragraph, if there is one; it tells whether more are wanted.
func (p *paragraph) handOn(yield func(int, []api.Field) bool) bool {
	if len(p.fields) == 0 {
		return true
	}
	return yield(p.fields[0].At[0], p.fields)
}

// take adds a line that is not empty.
func (p *paragraph) take(kind, number int, line string) api.Errno {
	if hasOdd(line) {
		return api.ErrStzByte
	}
	switch kind {
	case folded:
		return p.goOn(number, line)
	case first:
		return p.begin(number, line)
	}
	return api.OK
}

// goOn adds a folded line to the last field.
func (p *paragraph) goOn(number int, line string) api.Errno {
	if len(p.fields) == 0 {
		return api.ErrStzFold
	}
	last := &p.fields[len(p.fields)-1]
	last.Lines = append(last.Lines, strings.TrimRight(line[1:], blanks))
	last.At = append(last.At, number)
	return api.OK
}

// begin adds the field of a first line.
func (p *paragraph) begin(number int, line string) api.Errno {
	name, value, parted := strings.Cut(line, ":")
	if !parted || !isName(name) {
		return api.ErrStzName
	}
	key := smallLetters(name)
	if p.names[key] > 0 {
		return api.ErrStzTwice
	}
	if p.names == nil {
		p.names = make(map[string]int)
	}
	p.names[key] = number
	p.fields = append(p.fields, api.Field{Name: name, Lines: []string{strings.Trim(value, blanks)}, At: []int{number}})
	return api.OK
}
