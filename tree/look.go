package tree

import (
	"larder/api"
	"larder/sha"
	"larder/store"
)

// ready tells what speaks against every call that goes over the store's names: a store without power has none to tell.
func ready(s *store.Store) api.Errno {
	if s == nil {
		return api.ErrArg
	}
	if s.Dead() {
		return api.ErrStoDead
	}
	return api.OK
}

// Look tells the tree that lies on a store.
func Look(s *store.Store) ([]api.File, api.Errno) {
	if e := ready(s); e != api.OK {
		return nil, e
	}
	var files []api.File
	for name := range s.Names(treePart) {
		path, _, _, kind := Parse(name)
		if kind != kindTree {
			continue
		}
		data, e := s.Read(name)
		if e != api.OK {
			return nil, e
		}
		files = append(files, api.File{Path: path, Size: len(data), Sum: sha.Sum(data)})
	}
	return files, api.OK
}

// Differ holds the tree on a store against files.
func Differ(s *store.Store, files []api.File) (missing, changed, extra []string, e api.Errno) {
	wanted, e := rising(files)
	if e != api.OK {
		return nil, nil, nil, e
	}
	found, e := Look(s)
	if e != api.OK {
		return nil, nil, nil, e
	}
	for _, f := range wanted {
		for len(found) > 0 && found[0].Path < f.Path {
			extra = append(extra, found[0].Path)
			found = found[1:]
		}
		if len(found) == 0 || found[0].Path != f.Path {
			missing = append(missing, f.Path)
			continue
		}
		if found[0] != f {
			changed = append(changed, f.Path)
		}
		found = found[1:]
	}
	for _, f := range found {
		extra = append(extra, f.Path)
	}
	return missing, changed, extra, api.OK
}

// Read tells a file's bytes, if they are what they should be.
func Read(s *store.Store, f api.File) ([]byte, bool, api.Errno) {
	if s == nil {
		return nil, false, api.ErrArg
	}
	name, e := Name(f.Path)
	if e != api.OK {
		return nil, false, e
	}
	data, e := s.Read(name)
	if e == api.ErrStoNone {
		return nil, false, api.OK
	}
	if e != api.OK {
		return nil, false, e
	}
	if len(data) != f.Size || sha.Sum(data) != f.Sum {
		return nil, false, api.OK
	}
	return data, true, api.OK
}
