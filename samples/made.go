package samples

import (
	"larder/api"
	"larder/archive"
	"larder/sha"
)

// Made reads an installed package as Held does, and makes its archive, which is called `aa_1.deb`.
func Made(text string) (api.Held, api.Blob) {
	h := Held(text)
	data := Must(archive.Build(h.Package, Blobs(text)))
	h.Archive, h.Size, h.Sum = h.Name+"_"+h.Version+".deb", len(data), sha.Sum(data)
	return h, api.Blob{Name: h.Archive, Data: data}
}

// AllMade reads installed packages with `; ` between them, and makes their archives.
func AllMade(text string) ([]api.Held, []api.Blob) {
	var held []api.Held
	var archives []api.Blob
	for _, part := range Parts(text) {
		h, a := Made(part)
		held, archives = append(held, h), append(archives, a)
	}
	return held, archives
}
