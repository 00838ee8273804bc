package stanza

import "larder/api"

// Print writes paragraphs.
func Print(paragraphs [][]api.Field) ([]byte, api.Errno) {
	for _, p := range paragraphs {
		if !mayBe(p) {
			return nil, api.ErrStzForm
		}
	}
	var text []byte
	for i, p := range paragraphs {
		if i > 0 {
			text = append(text, '\n')
		}
		for _, f := range p {
			text = appendField(text, f)
			// Asked at each field, so that no more is written than one field too many.
			if len(text) > api.MaxInput {
				return nil, api.ErrLong
			}
		}
	}
	return text, api.OK
}

// mayBe tells whether fields are a paragraph.
func mayBe(fields []api.Field) bool {
	names := make(map[string]int, len(fields))
	for i, f := range fields {
		if Check(f) != api.OK {
			return false
		}
		names[smallLetters(f.Name)] = i
	}
	return len(fields) > 0 && len(names) == len(fields)
}

// appendField writes a field behind a text.
func appendField(text []byte, f api.Field) []byte {
	text = append(text, f.Name...)
	text = append(text, ':')
	if f.Lines[0] != "" {
		text = append(text, ' ')
		text = append(text, f.Lines[0]...)
	}
	text = append(text, '\n')
	for _, line := range f.Lines[1:] {
		text = append(text, ' ')
		text = append(text, line...)
		text = append(text, '\n')
	}
	return text
}
