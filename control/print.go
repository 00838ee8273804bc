package control

import (
	"strconv"

	"larder/api"
	"larder/debver"
	"larder/relation"
	"larder/stanza"
)

// sumDigits are the digits of a sum's text, each at its value.
const sumDigits = "0123456789abcdef"

// Check tells whether a package may be.
func Check(p api.Package) api.Errno {
	_, _, e := printed(p)
	return e
}

// Fields tells a package's paragraph.
func Fields(p api.Package) ([]api.Field, api.Errno) {
	fields, _, e := printed(p)
	return fields, e
}

// Print tells its text.
func Print(p api.Package) ([]byte, api.Errno) {
	_, text, e := printed(p)
	return text, e
}

// printed tells a package's paragraph and its text: whether it is too long only the text shows.
func printed(p api.Package) ([]api.Field, []byte, api.Errno) {
	fields, e := paragraph(p)
	if e != api.OK {
		return nil, nil, e
	}
	text, e := stanza.Print([][]api.Field{fields})
	if e != api.OK {
		return nil, nil, e
	}
	return fields, text, api.OK
}

// paragraph tells a package's fields, or what is wrong with it, but for its length. The parts stand in the order in which they are printed, and in which what is wrong is told.
func paragraph(p api.Package) ([]api.Field, api.Errno) {
	var fields []api.Field
	for _, part := range []func(api.Package) ([]api.Field, api.Errno){tellName, tellRelations, tellArchive, tellFiles, tellSummary} {
		more, e := part(p)
		if e != api.OK {
			return nil, e
		}
		fields = append(fields, more...)
	}
	return fields, api.OK
}

// field makes a field of one line.
func field(name, line string) api.Field { return api.Field{Name: name, Lines: []string{line}} }

func tellName(p api.Package) ([]api.Field, api.Errno) {
	if relation.CheckName(p.Name) != api.OK {
		return nil, api.ErrCtlName
	}
	if _, e := debver.Parse(p.Version); e != api.OK {
		return nil, api.ErrCtlVersion
	}
	fields := []api.Field{field("Package", p.Name), field("Version", p.Version)}
	if p.Essential {
		fields = append(fields, field("Essential", "yes"))
	}
	return fields, api.OK
}

func tellRelations(p api.Package) ([]api.Field, api.Errno) {
	depends, e1 := relation.PrintField(p.Depends)
	preDepends, e2 := relation.PrintField(p.PreDepends)
	conflicts, e3 := relation.PrintAtoms(p.Conflicts)
	provides, e4 := relation.PrintNames(p.Provides)
	if e1 != api.OK || e2 != api.OK || e3 != api.OK || e4 != api.OK {
		return nil, api.ErrCtlRelation
	}
	var fields []api.Field
	for _, f := range []api.Field{field("Depends", depends), field("Pre-Depends", preDepends), field("Conflicts", conflicts), field("Provides", provides)} {
		if f.Lines[0] != "" {
			fields = append(fields, f)
		}
	}
	return fields, api.OK
}

func tellArchive(p api.Package) ([]api.Field, api.Errno) {
	if p.Archive == "" {
		if p.Size != 0 || p.Sum != [32]byte{} {
			return nil, api.ErrCtlValue
		}
		return nil, api.OK
	}
	if e := CheckPath(p.Archive); e != api.OK {
		return nil, e
	}
	if p.Size < 0 || p.Size > api.MaxInput {
		return nil, api.ErrCtlValue
	}
	return []api.Field{field("Filename", p.Archive), field("Size", strconv.Itoa(p.Size)), field("SHA256", printSum(p.Sum))}, api.OK
}

func tellFiles(p api.Package) ([]api.Field, api.Errno) {
	if len(p.Files) > api.MaxFiles {
		return nil, api.ErrCtlFiles
	}
	if len(p.Files) == 0 {
		return nil, api.OK
	}
	f := field("Files", "")
	last := ""
	for _, file := range p.Files {
		if e := CheckPath(file.Path); e != api.OK {
			return nil, e
		}
		if file.Size < 0 || file.Size > api.MaxFile || file.Path <= last {
			return nil, api.ErrCtlFiles
		}
		last = file.Path
		f.Lines = append(f.Lines, printSum(file.Sum)+" "+strconv.Itoa(file.Size)+" "+file.Path)
	}
	return []api.Field{f}, api.OK
}

func tellSummary(p api.Package) ([]api.Field, api.Errno) {
	if !isSummary(p.Summary) {
		return nil, api.ErrCtlSummary
	}
	if p.Summary == "" {
		return nil, api.OK
	}
	return []api.Field{field("Description", p.Summary)}, api.OK
}

// printSum is the way back from parseSum.
func printSum(sum [32]byte) string {
	text := make([]byte, 0, 2*len(sum))
	for _, b := range sum {
		text = append(text, sumDigits[b>>4], sumDigits[b&15])
	}
	return string(text)
}
