package samples

import "larder/api"

// Apart tells whether no two of some lists share memory, the room beyond their ends included.
func Apart[R ~[]T, T any](lists ...R) bool {
	for i, list := range lists {
		for _, other := range lists[:i] {
			if share(list, other) {
				return false
			}
		}
	}
	return true
}

func share[R ~[]T, T any](a, b R) bool {
	a, b = a[:cap(a)], b[:cap(b)]
	for i := range a {
		for k := range b {
			if &a[i] == &b[k] {
				return true
			}
		}
	}
	return false
}

// PackagesApart tells whether no two lists that packages have share memory.
func PackagesApart(ps ...api.Package) bool {
	var fields [][]api.Clause
	var atoms [][]api.Atom
	var texts [][]string
	var files [][]api.File
	for _, p := range ps {
		for _, clauses := range [][]api.Clause{p.Depends, p.PreDepends} {
			fields = append(fields, clauses)
			for _, c := range clauses {
				atoms = append(atoms, c)
			}
		}
		atoms, texts, files = append(atoms, p.Conflicts), append(texts, p.Provides), append(files, p.Files)
	}
	return Apart(fields...) && Apart(atoms...) && Apart(texts...) && Apart(files...)
}

// EntriesApart tells whether no two lists of some lists of entries share memory, nor they themselves.
func EntriesApart(lists ...[]api.Entry) bool {
	var keys [][]api.Key
	for _, list := range lists {
		for _, entry := range list {
			keys = append(keys, entry.Out, entry.In)
		}
	}
	return Apart(lists...) && Apart(keys...)
}
