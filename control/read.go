package control

import (
	"strings"

	"larder/api"
	"larder/debver"
	"larder/relation"
	"larder/stanza"
)

// reader is how a known field is read: whether it may have but one line; what reads its value into a package, and tells which of its lines is wrong, and how. What is read has a line at least.
type reader struct {
	single bool
	read   func(p *api.Package, f api.Field) (int, api.Errno)
}

// readers tells which fields are known, by their names in small letters.
func readers() map[string]reader {
	return map[string]reader{
		"package":     {true, readName},
		"version":     {true, readVersion},
		"essential":   {true, readEssential},
		"depends":     {false, readDepends},
		"pre-depends": {false, readPreDepends},
		"conflicts":   {false, readConflicts},
		"provides":    {false, readProvides},
		"filename":    {true, readArchive},
		"size":        {true, readSize},
		"sha256":      {true, readSum},
		"files":       {false, readFiles},
		"description": {false, readSummary},
	}
}

// Read reads the package that a paragraph is; or the line of what is wrong.
func Read(fields []api.Field) (api.Package, int, api.Errno) {
	var p api.Package
	known := readers()
	stood := make(map[string]int)
	for _, f := range fields {
		name := strings.Map(smallLetter, f.Name)
		r, ok := known[name]
		if !ok {
			continue
		}
		if stood[name] > 0 {
			return api.Package{}, stanza.Line(f, 0), api.ErrCtlTwice
		}
		stood[name] = 1
		if wrong, e := r.take(&p, f); e != api.OK {
			return api.Package{}, stanza.Line(f, wrong), e
		}
	}
	if isMissing(stood) {
		return api.Package{}, firstLine(fields), api.ErrCtlMissing
	}
	// All values have been read one by one, so what is still refused is too long: a relation that is refused now is so for its length alone.
	if Check(p) != api.OK {
		return api.Package{}, firstLine(fields), api.ErrLong
	}
	return p, 0, api.OK
}

// smallLetter turns A to Z alone: no letter from beyond them makes a known name.
func smallLetter(r rune) rune {
	if 'A' <= r && r <= 'Z' {
		return r - 'A' + 'a'
	}
	return r
}

// isMissing tells whether a field is not there that is needed, or needed beside one that is there.
func isMissing(stood map[string]int) bool {
	return stood["package"] == 0 || stood["version"] == 0 || stood["size"] != stood["filename"] || stood["sha256"] != stood["filename"]
}

// firstLine tells the line of a paragraph's first field.
func firstLine(fields []api.Field) int {
	if len(fields) == 0 {
		return 0
	}
	return stanza.Line(fields[0], 0)
}

// take reads a field into a package.
func (r reader) take(p *api.Package, f api.Field) (int, api.Errno) {
	if r.single && len(f.Lines) > 1 {
		return 0, api.ErrCtlValue
	}
	if len(f.Lines) == 0 {
		f.Lines = []string{""}
	}
	return r.read(p, f)
}

func readName(p *api.Package, f api.Field) (int, api.Errno) {
	if relation.CheckName(f.Lines[0]) != api.OK {
		return 0, api.ErrCtlName
	}
	p.Name = f.Lines[0]
	return 0, api.OK
}

func readVersion(p *api.Package, f api.Field) (int, api.Errno) {
	if _, e := debver.Parse(f.Lines[0]); e != api.OK {
		return 0, api.ErrCtlVersion
	}
	p.Version = f.Lines[0]
	return 0, api.OK
}

func readEssential(p *api.Package, f api.Field) (int, api.Errno) {
	if f.Lines[0] != "yes" && f.Lines[0] != "no" {
		return 0, api.ErrCtlValue
	}
	p.Essential = f.Lines[0] == "yes"
	return 0, api.OK
}

func readDepends(p *api.Package, f api.Field) (int, api.Errno) {
	return readRelation(&p.Depends, f, relation.ParseField)
}

func readPreDepends(p *api.Package, f api.Field) (int, api.Errno) {
	return readRelation(&p.PreDepends, f, relation.ParseField)
}

func readConflicts(p *api.Package, f api.Field) (int, api.Errno) {
	return readRelation(&p.Conflicts, f, relation.ParseAtoms)
}

func readProvides(p *api.Package, f api.Field) (int, api.Errno) {
	return readRelation(&p.Provides, f, relation.ParseNames)
}

// readRelation reads a row out of all lines of a field.
func readRelation[T any](row *[]T, f api.Field, parse func(string) ([]T, api.Errno)) (int, api.Errno) {
	list, e := parse(stanza.Joined(f))
	if e != api.OK {
		return 0, api.ErrCtlRelation
	}
	*row = list
	return 0, api.OK
}

func readArchive(p *api.Package, f api.Field) (int, api.Errno) {
	p.Archive = f.Lines[0]
	return 0, CheckPath(p.Archive)
}

func readSize(p *api.Package, f api.Field) (int, api.Errno) {
	size, ok := parseDecimal(f.Lines[0], api.MaxInput)
	if !ok {
		return 0, api.ErrCtlValue
	}
	p.Size = size
	return 0, api.OK
}

func readSum(p *api.Package, f api.Field) (int, api.Errno) {
	sum, ok := parseSum(f.Lines[0])
	if !ok {
		return 0, api.ErrCtlValue
	}
	p.Sum = sum
	return 0, api.OK
}

func readSummary(p *api.Package, f api.Field) (int, api.Errno) {
	if !isSummary(f.Lines[0]) {
		return 0, api.ErrCtlSummary
	}
	p.Summary = f.Lines[0]
	return 0, api.OK
}

func readFiles(p *api.Package, f api.Field) (int, api.Errno) {
	if f.Lines[0] != "" {
		return 0, api.ErrCtlValue
	}
	last := ""
	for i, line := range f.Lines[1:] {
		file, e := parseFile(line)
		if e != api.OK {
			return i + 1, e
		}
		if file.Path <= last || i >= api.MaxFiles {
			return i + 1, api.ErrCtlFiles
		}
		last = file.Path
		p.Files = append(p.Files, file)
	}
	return 0, api.OK
}

// parseFile reads a line of Files.
func parseFile(line string) (api.File, api.Errno) {
	sumText, rest, _ := strings.Cut(line, " ")
	sizeText, path, parted := strings.Cut(rest, " ")
	sum, isSum := parseSum(sumText)
	size, isSize := parseDecimal(sizeText, api.MaxFile)
	if !parted || !isSum || !isSize {
		return api.File{}, api.ErrCtlFiles
	}
	if e := CheckPath(path); e != api.OK {
		return api.File{}, e
	}
	return api.File{Path: path, Size: size, Sum: sum}, api.OK
}

// parseDecimal reads digits without noughts ahead, of a number of at most so much.
func parseDecimal(s string, most int) (int, bool) {
	if s == "" || s[0] == '0' && s != "0" || !allWithin(s, '0', '9') {
		return 0, false
	}
	n := 0
	for i := range len(s) {
		n = n*10 + int(s[i]-'0')
		// Asked at each digit: of all of them the number might have no room.
		if n > most {
			return 0, false
		}
	}
	return n, true
}

// parseSum reads a sum's digits.
func parseSum(s string) ([32]byte, bool) {
	var sum [32]byte
	if len(s) != 2*len(sum) {
		return sum, false
	}
	for i := range sum {
		high, low := strings.IndexByte(sumDigits, s[2*i]), strings.IndexByte(sumDigits, s[2*i+1])
		if high < 0 || low < 0 {
			return [32]byte{}, false
		}
		sum[i] = byte(high<<4 | low)
	}
	return sum, true
}
