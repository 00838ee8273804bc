package samples

import "larder/api"

// RoomyBlobs tells a copy of some blobs whose bytes, and the list itself, have room beyond their ends.
func RoomyBlobs(blobs []api.Blob) []api.Blob {
	list := make([]api.Blob, len(blobs))
	for i, b := range blobs {
		list[i] = api.Blob{Name: b.Name, Data: Roomy(b.Data, '!')}
	}
	return Roomy(list, api.Blob{Name: "beyond", Data: []byte("beyond")})
}

// ExtentOfBlobs tells a copy of all that blobs have room for.
func ExtentOfBlobs(blobs []api.Blob) []api.Blob {
	list := Room(blobs)
	for i, b := range list {
		list[i].Data = Room(b.Data)
	}
	return list
}

// SpoilBlobs writes over all that blobs have room for.
func SpoilBlobs(blobs []api.Blob) {
	for _, b := range blobs[:cap(blobs)] {
		Fill(b.Data, '?')
	}
	Fill(blobs, api.Blob{Name: "spoiled", Data: []byte("?")})
}
