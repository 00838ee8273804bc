package front_test

import (
	"math/rand/v2"
	"slices"
	"strings"

	"larder/api"
)

// pick tells one of some things.
func pick[T any](r *rand.Rand, things ...T) T { return things[r.IntN(len(things))] }

// mixedAtom tells an atom of one of some names.
func mixedAtom(r *rand.Rand, names []string) string {
	return pick(r, names...) + pick(r, "", "", "", "(>=2)", "(=1)", "(<<2)", "(>>1)")
}

// mixedPackage tells a package as stocked reads it, whose relations are to some names.
func mixedPackage(r *rand.Rand, name, version string, names []string) string {
	words := []string{name, version}
	if r.IntN(25) == 0 {
		words = append(words, "essential")
	}
	for range r.IntN(3) {
		words = append(words, "depends="+mixedAtom(r, names)+pick(r, "", "", "|"+mixedAtom(r, names)))
	}
	if r.IntN(6) == 0 {
		words = append(words, "pre="+mixedAtom(r, names))
	}
	if r.IntN(8) == 0 {
		words = append(words, "conflicts="+mixedAtom(r, names))
	}
	if r.IntN(6) == 0 {
		words = append(words, "provides="+pick(r, names...))
	}
	if r.IntN(3) > 0 {
		words = append(words, name+":"+name+version)
	}
	if r.IntN(8) == 0 {
		words = append(words, "t:"+pick(r, "one", name))
	}
	if r.IntN(20) == 0 {
		words = append(words, "loose")
	}
	return strings.Join(words, " ")
}

// mixedShelf tells a shelf of at most so many packages.
func mixedShelf(r *rand.Rand, names []string, most int) shelf {
	var parts []string
	for _, name := range names {
		for _, version := range []string{"1", "2", "3"} {
			if len(parts) < most && r.IntN(2) == 0 {
				parts = append(parts, mixedPackage(r, name, version, append(names, "vv")))
			}
		}
	}
	return stocked(strings.Join(parts, "; "))
}

// mixedRelease tells a shelf of one version, whose packages want one another in just that: whole sets change, where it takes the place of another one.
func mixedRelease(r *rand.Rand, names []string) shelf {
	version := pick(r, "1", "2", "3")
	var parts []string
	for i, name := range names {
		words := []string{name, version, name + ":" + name + version}
		for range r.IntN(min(i, 2) + 1) {
			words = append(words, pick(r, "depends=", "depends=", "pre=")+names[r.IntN(i)]+pick(r, "", "(="+version+")", "(>="+version+")"))
		}
		if r.IntN(5) > 0 {
			parts = append(parts, strings.Join(words, " "))
		}
	}
	return stocked(strings.Join(parts, "; "))
}

// mixedRequest tells a request over some names.
func mixedRequest(r *rand.Rand, names []string) api.Request {
	var parts []string
	for range r.IntN(4) {
		parts = append(parts, pick(r, "install ", "install ", "install ", "remove ")+mixedAtom(r, append(names, "vv")))
	}
	if r.IntN(4) == 0 {
		parts = append(parts, "upgrade")
	}
	if r.IntN(5) == 0 {
		parts = append(parts, "hold "+pick(r, names...))
	}
	if r.IntN(30) == 0 {
		parts = append(parts, "budget "+pick(r, "0", "5", "60", "-1"))
	}
	request := asks(strings.Join(parts, "; "))
	if r.IntN(6) == 0 {
		request.Pins = []api.Pin{{Name: pick(r, append(names, "*")...), Op: api.OpEqual, Version: pick(r, "1", "2"), Priority: pick(r, -1, 5)}}
	}
	return request
}

// mixedArchives tells archives, some of them missing, some wrong, some twice.
func mixedArchives(r *rand.Rand, all []api.Blob) []api.Blob {
	list := slices.Clone(all)
	if len(list) == 0 || r.IntN(3) > 0 {
		return list
	}
	place := r.IntN(len(list))
	odd := api.Blob{Name: list[place].Name, Data: append(slices.Clone(list[place].Data), 0)}
	switch r.IntN(4) {
	case 0:
		return slices.Delete(list, place, place+1)
	case 1:
		list[place] = odd
		return list
	case 2:
		return append(list, odd)
	}
	return slices.Insert(list, 0, odd)
}
