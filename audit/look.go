package audit

import (
	"slices"
	"strings"

	"larder/api"
	"larder/installed"
	"larder/sha"
	"larder/store"
)

// The store's names that are looked for. (Paths that may not be have names there too: tree tells none of them.)
const (
	treePart    = "t/"
	stagedPart  = "n/"
	fileStatus  = "d/status"
	fileJournal = "d/journal"
)

// right is the kind of a file with which nothing is wrong.
const right = 0

// broken tells what is wrong with the files of installed packages.
func broken(s *store.Store, held []api.Held) []api.Wrong {
	var list []api.Wrong
	for _, h := range held {
		for _, f := range byPaths(h.Files) {
			if kind := look(s, f); kind != right {
				list = append(list, api.Wrong{Kind: kind, Path: f.Path, Who: installed.Key(h)})
			}
		}
	}
	return list
}

// byPaths tells a copy of files by rising paths: those of a package that may not be stand in any order.
func byPaths(files []api.File) []api.File {
	files = slices.Clone(files)
	slices.SortFunc(files, func(a, b api.File) int { return strings.Compare(a.Path, b.Path) })
	return files
}

// look tells what is wrong with a package's file on a store.
func look(s *store.Store, f api.File) int {
	name := treePart + f.Path
	size, e := s.Size(name)
	switch {
	case e != api.OK: // there is none, or can be none of such a name
		return api.WrongMissing
	case size != f.Size:
		return api.WrongSize
	case sumOf(s, name) != f.Sum:
		return api.WrongSum
	}
	return right
}

// sumOf tells the sum of a file that is there.
func sumOf(s *store.Store, name string) [32]byte {
	data, _ := s.Read(name)
	return sha.Sum(data)
}

// besides tells the files of a store that neither packages nor the database have.
func besides(s *store.Store, owners map[string]int) []api.Wrong {
	var strays, staged, others []api.Wrong
	for name := range s.Names("") {
		path, inTree := strings.CutPrefix(name, treePart)
		_, owned := owners[path]
		switch {
		case inTree && owned:
		case inTree:
			strays = append(strays, api.Wrong{Kind: api.WrongStray, Path: path})
		case strings.HasPrefix(name, stagedPart):
			staged = append(staged, api.Wrong{Kind: api.WrongStaged, Path: name})
		case name != fileStatus && name != fileJournal:
			others = append(others, api.Wrong{Kind: api.WrongOther, Path: name})
		}
	}
	return slices.Concat(strays, staged, others)
}
