package samples

import (
	"slices"
	"strconv"
	"strings"

	"larder/api"
	"larder/relation"
	"larder/sha"
)

// Must tells what was read of a text that a test has written; where it was not, the test is wrong.
func Must[T any](x T, e api.Errno) T {
	if e != api.OK {
		panic(e)
	}
	return x
}

// Parts cuts a text at each `; `; an empty one has no parts.
func Parts(text string) []string {
	if text == "" {
		return nil
	}
	return strings.Split(text, "; ")
}

// Packages reads packages with `; ` between them.
func Packages(text string) []api.Package {
	var list []api.Package
	for _, part := range Parts(text) {
		list = append(list, Package(part))
	}
	return list
}

// Package reads a package as `aa 1 essential depends=bb|cc(>=2) pre=dd conflicts=ee,ff(=1) provides=gg,hh files=a,b/c`; each depends and each pre is one clause.
func Package(text string) api.Package {
	words := strings.Fields(text)
	p := api.Package{Name: words[0], Version: words[1]}
	for _, word := range words[2:] {
		what, value, _ := strings.Cut(word, "=")
		switch what {
		case "essential":
			p.Essential = true
		case "depends":
			p.Depends = append(p.Depends, Must(relation.ParseClause(value)))
		case "pre":
			p.PreDepends = append(p.PreDepends, Must(relation.ParseClause(value)))
		case "conflicts":
			p.Conflicts = Must(relation.ParseAtoms(value))
		case "provides":
			p.Provides = strings.Split(value, ",")
		case "files":
			for _, path := range strings.Split(value, ",") {
				p.Files = append(p.Files, api.File{Path: path})
			}
		default:
			panic(word)
		}
	}
	return p
}

// Wishes reads wishes with `; ` between them.
func Wishes(text string) []api.Wish {
	var list []api.Wish
	for _, part := range Parts(text) {
		list = append(list, Wish(part))
	}
	return list
}

// Wish reads a wish as `install aa(>=2)`, `remove aa` or `upgrade`.
func Wish(text string) api.Wish {
	what, atom, _ := strings.Cut(text, " ")
	kind := slices.Index([]string{api.WishInstall: "install", api.WishRemove: "remove", api.WishUpgrade: "upgrade"}, what)
	if kind == api.WishUpgrade {
		return api.Wish{Kind: kind}
	}
	return api.Wish{Kind: kind, Atom: Must(relation.ParseAtom(atom))}
}

// File tells the file of a path with just these bytes.
func File(path, data string) api.File {
	return api.File{Path: path, Size: len(data), Sum: sha.Sum([]byte(data))}
}

// Blobs reads files as `x:hi y:`: paths and their bytes. Words without a colon are passed over.
func Blobs(text string) []api.Blob {
	var list []api.Blob
	for _, word := range strings.Fields(text) {
		if path, data, is := strings.Cut(word, ":"); is {
			list = append(list, api.Blob{Name: path, Data: []byte(data)})
		}
	}
	return list
}

// Held reads an installed package as Package does, with files as Blobs has them; `auto` among its words is its mark.
func Held(text string) api.Held {
	var h api.Held
	var words []string
	for _, word := range strings.Fields(text) {
		if word == "auto" {
			h.Mark = api.MarkAuto
		} else if !strings.Contains(word, ":") {
			words = append(words, word)
		}
	}
	h.Package = Package(strings.Join(words, " "))
	for _, b := range Blobs(text) {
		h.Files = append(h.Files, File(b.Name, string(b.Data)))
	}
	return h
}

// AllHeld reads installed packages with `; ` between them.
func AllHeld(text string) []api.Held {
	var list []api.Held
	for _, part := range Parts(text) {
		list = append(list, Held(part))
	}
	return list
}

// Keys reads keys as `aa=1 bb=1:2-3`.
func Keys(text string) []api.Key {
	var list []api.Key
	for _, word := range strings.Fields(text) {
		name, version, _ := strings.Cut(word, "=")
		list = append(list, api.Key{Name: name, Version: version})
	}
	return list
}

// Work reads a work as `out aa bb; in cc 1 x:hi; in dd 1; mark ee; mend y:ho; group 3`; its Files are those of what comes.
func Work(text string) api.Work {
	var w api.Work
	for _, part := range Parts(text) {
		what, rest, _ := strings.Cut(part, " ")
		switch what {
		case "out":
			w.Out = strings.Fields(rest)
		case "in":
			w.In = append(w.In, Held(rest))
			w.Files = append(w.Files, Blobs(rest)...)
		case "mark":
			w.Marks = strings.Fields(rest)
		case "mend":
			w.Mend = Blobs(rest)
		case "group":
			w.Group, _ = strconv.Atoi(rest)
		default:
			panic(part)
		}
	}
	return w
}
