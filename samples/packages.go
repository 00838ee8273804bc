package samples

import (
	"strings"

	"larder/api"
)

// Full tells a package with all that a package may have, of a name and a version.
func Full(name, version string) api.Package {
	return api.Package{
		Name: name, Version: version, Essential: true,
		Depends:    []api.Clause{{{Name: "bb", Op: api.OpAtLeast, Version: "1"}, {Name: "cc"}}, {{Name: "dd"}}},
		PreDepends: []api.Clause{{{Name: "ee", Op: api.OpMore, Version: "0~"}, {Name: "aa"}}},
		Conflicts:  []api.Atom{{Name: "ff", Op: api.OpLess, Version: "2"}, {Name: "f2"}},
		Provides:   []string{"gg", "hh"},
		Files:      []api.File{{Path: "a", Size: 5}, {Path: "b/c", Sum: [32]byte{1, 31: 2}}},
		Archive:    "pool/" + name, Size: 77, Sum: [32]byte{3, 31: 4},
		Summary: "a thing",
	}
}

// RoomyPackage tells a copy of a package whose lists have room beyond their ends, as Roomy makes it.
func RoomyPackage(p api.Package) api.Package {
	beyond := api.Atom{Name: "beyond"}
	p.Depends = RoomyRows(p.Depends, beyond)
	p.PreDepends = RoomyRows(p.PreDepends, beyond)
	p.Conflicts = Roomy(p.Conflicts, beyond)
	p.Provides = Roomy(p.Provides, "beyond")
	p.Files = Roomy(p.Files, api.File{Path: "beyond"})
	return p
}

// Extent tells a copy of all that a package's lists have room for, to be held against what they have later.
func Extent(p api.Package) api.Package {
	p.Depends = RoomOfRows(p.Depends)
	p.PreDepends = RoomOfRows(p.PreDepends)
	p.Conflicts = Room(p.Conflicts)
	p.Provides = Room(p.Provides)
	p.Files = Room(p.Files)
	return p
}

// Spoil writes over all that a package's lists have room for.
func Spoil(p api.Package) {
	bad := api.Atom{Name: "spoiled"}
	FillRows(p.Depends, bad)
	FillRows(p.PreDepends, bad)
	Fill(p.Conflicts, bad)
	Fill(p.Provides, "spoiled")
	Fill(p.Files, api.File{Path: "spoiled"})
}

// LongDepends tells a Depends that prints to so many bytes, of some millions.
func LongDepends(size int) []api.Clause {
	const each = 140
	atoms := api.MaxClauses * each
	names := size - 3*(atoms-api.MaxClauses) - 2*(api.MaxClauses-1)
	list := make([]api.Clause, api.MaxClauses)
	for i := range list {
		list[i] = make(api.Clause, each)
		for j := range list[i] {
			n := names / atoms
			if i*each+j < names%atoms {
				n++
			}
			list[i][j].Name = strings.Repeat("n", n)
		}
	}
	return list
}

// Dense tells clauses without constraints as they stand in a text with no blank that it can do without.
func Dense(clauses []api.Clause) string {
	var texts []string
	for _, c := range clauses {
		var names []string
		for _, a := range c {
			names = append(names, a.Name)
		}
		texts = append(texts, strings.Join(names, "|"))
	}
	return strings.Join(texts, ",")
}
