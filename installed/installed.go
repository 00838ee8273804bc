// Package installed asks of installed packages what the layers tell of packages alone.
package installed

import (
	"larder/api"
	"larder/valid"
)

// Key tells the name and the version of an installed package.
func Key(h api.Held) api.Key { return api.Key{Name: h.Name, Version: h.Version} }

// Packages tells the stanzas of installed packages, whose lists are still theirs.
func Packages(held []api.Held) []api.Package {
	list := make([]api.Package, len(held))
	for i, h := range held {
		list[i] = h.Package
	}
	return list
}

// Valid tells whether they are a set in which nothing is broken.
func Valid(held []api.Held) bool { return valid.Valid(Packages(held)) }
