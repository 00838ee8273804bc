package shell

import (
	"slices"
	"strings"

	"larder/api"
	"larder/archive"
	"larder/control"
	"larder/sha"
	"larder/stanza"
)

// addIndex puts lines behind the index text.
func (s *session) addIndex(lines []string) {
	s.index = append(s.index, textOf(lines)...)
	s.tell("ok")
}

// textOf tells lines, each with its end.
func textOf(lines []string) []byte {
	var text []byte
	for _, line := range lines {
		text = append(text, line...)
		text = append(text, '\n')
	}
	return text
}

// makePackage makes a package and its archive of a paragraph and files.
func (s *session) makePackage(lines []string) {
	m, e := madeOf(lines)
	if e != api.OK {
		s.tellError(e)
		return
	}
	if len(s.index) > 0 {
		s.index = append(s.index, '\n')
	}
	s.index = append(s.index, m.stanza...)
	s.archives = append(s.archives, m.archive)
	s.tell("ok", keyText(m.key))
}

// made is a package as an index and a caller's archives have it.
type made struct {
	key     api.Key
	stanza  []byte
	archive api.Blob
}

// madeOf makes what a block tells.
func madeOf(lines []string) (made, api.Errno) {
	files, others, e := filesOf(lines)
	if e != api.OK {
		return made{}, e
	}
	paragraph, e := paragraphOf(others)
	if e != api.OK {
		return made{}, e
	}
	p, _, e := control.Read(paragraph)
	if e != api.OK {
		return made{}, e
	}
	p.Files, e = archive.Manifest(files)
	if e != api.OK {
		return made{}, e
	}
	data, e := archive.Build(p, files)
	if e != api.OK {
		return made{}, e
	}
	p.Archive, p.Size, p.Sum = p.Name+"_"+p.Version+".deb", len(data), sha.Sum(data)
	text, e := control.Print(p)
	if e != api.OK {
		return made{}, e
	}
	return made{control.Key(p), text, api.Blob{Name: p.Archive, Data: data}}, api.OK
}

// filesOf parts the lines that are files, which it tells by rising paths, from the others.
func filesOf(lines []string) (files []api.Blob, others []string, e api.Errno) {
	for _, line := range lines {
		if !strings.HasPrefix(line, "+") {
			others = append(others, line)
			continue
		}
		words, _ := Words(line)
		args, is := argsOf("WX", words)
		if !is {
			return nil, nil, api.ErrShellLine
		}
		files = append(files, api.Blob{Name: args[0].text[1:], Data: args[1].data})
	}
	slices.SortStableFunc(files, func(a, b api.Blob) int { return strings.Compare(a.Name, b.Name) })
	return files, others, api.OK
}

// paragraphOf reads the one paragraph of a block, which may not say what is made up of its files.
func paragraphOf(lines []string) ([]api.Field, api.Errno) {
	paragraphs, _, e := stanza.Parse(textOf(lines))
	if e != api.OK {
		return nil, e
	}
	if len(paragraphs) != 1 {
		return nil, api.ErrShellLine
	}
	for _, name := range []string{"Files", "Filename", "Size", "SHA256"} {
		if _, is := stanza.Get(paragraphs[0], name); is {
			return nil, api.ErrShellLine
		}
	}
	return paragraphs[0], api.OK
}
