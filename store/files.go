package store

import (
	"slices"
	"strings"

	"larder/api"
)

// maxName is a path's bytes and the two of the part of the store that it stands in.
const maxName = api.MaxPath + 2

func isName(name string) bool {
	if len(name) < 1 || len(name) > maxName {
		return false
	}
	for i := range len(name) {
		if name[i] < 0x21 || name[i] > 0x7e {
			return false
		}
	}
	return true
}

// files is a directory: bytes by their names. Bytes that stand in it are never written over, so that two directories may share them.
type files struct {
	data map[string][]byte
	used int // the bytes of all files together
}

func (f *files) put(name string, data []byte) {
	if f.data == nil {
		f.data = map[string][]byte{}
	}
	f.used += len(data) - len(f.data[name])
	f.data[name] = data
}

func (f *files) drop(name string) {
	f.used -= len(f.data[name])
	delete(f.data, name)
}

// follow makes a name lead to what it leads to in another directory.
func (f *files) follow(other *files, name string) {
	if data, ok := other.data[name]; ok {
		f.put(name, data)
	} else {
		f.drop(name)
	}
}

// names tells the names that begin with a text, rising.
func (f *files) names(prefix string) []string {
	var names []string
	for name := range f.data {
		if strings.HasPrefix(name, prefix) {
			names = append(names, name)
		}
	}
	slices.Sort(names)
	return names
}

func (f *files) blobs() []api.Blob {
	var blobs []api.Blob
	for _, name := range f.names("") {
		blobs = append(blobs, api.Blob{Name: name, Data: slices.Clone(f.data[name])})
	}
	return blobs
}
