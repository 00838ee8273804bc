package audit

import (
	"maps"
	"slices"

	"larder/api"
	"larder/archive"
)

// mending is what of a state is laid anew, as it comes about.
type mending struct {
	held     []api.Held
	owners   map[string]int
	archives map[string][]byte // of several with one name the first
	opened   []bool            // of which packages, by their places, the archive has been looked at
	contents map[string][]byte // by paths: all files of those packages whose archive is right
	mended   map[string][]byte // by paths: what is laid anew
}

func mendingOf(held []api.Held, owners map[string]int, archives []api.Blob) mending {
	m := mending{held: held, owners: owners, opened: make([]bool, len(held))}
	m.archives, m.contents, m.mended = map[string][]byte{}, map[string][]byte{}, map[string][]byte{}
	for _, a := range archives {
		if _, known := m.archives[a.Name]; !known {
			m.archives[a.Name] = a.Data
		}
	}
	return m
}

// takes mends what is wrong, if that can be; it tells whether it can.
func (m mending) takes(w api.Wrong) bool {
	switch w.Kind {
	case api.WrongMissing, api.WrongSize, api.WrongSum:
		data, has := m.find(w.Path)
		if has {
			m.mended[w.Path] = data
		}
		return has
	default:
		return false
	}
}

// find tells what a path of the state should hold, if an archive has it.
func (m mending) find(path string) ([]byte, bool) {
	place, owned := m.owners[path]
	if !owned {
		return nil, false
	}
	m.open(place)
	data, has := m.contents[path]
	return data, has
}

// open looks at a package's archive, but once: what is wrong may be many files of one package.
func (m mending) open(place int) {
	if m.opened[place] {
		return
	}
	m.opened[place] = true
	p := m.held[place].Package
	data, has := m.archives[p.Archive]
	if !has {
		return
	}
	files, _ := archive.Check(p, data) // none, where it is not the package's
	for _, f := range files {
		m.contents[f.Name] = f.Data
	}
}

// blobs tells what is laid anew, by rising paths.
func (m mending) blobs() []api.Blob {
	var list []api.Blob
	for _, path := range slices.Sorted(maps.Keys(m.mended)) {
		list = append(list, api.Blob{Name: path, Data: m.mended[path]})
	}
	return list
}
