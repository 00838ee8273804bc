package samples

import (
	"maps"
	"slices"
	"strconv"

	"larder/api"
	"larder/store"
)

// Disk makes a store of files, all durable.
func Disk(files map[string]string, capacity int) *store.Store {
	var blobs []api.Blob
	for _, name := range slices.Sorted(maps.Keys(files)) {
		blobs = append(blobs, api.Blob{Name: name, Data: []byte(files[name])})
	}
	return Must(store.Load(blobs, capacity))
}

// Seen tells the files that are seen on a store.
func Seen(s *store.Store) map[string]string {
	files := map[string]string{}
	for _, b := range s.Image() {
		files[b.Name] = string(b.Data)
	}
	return files
}

// Told tells as a text all that a store tells.
func Told(s *store.Store) string {
	var text []byte
	for _, n := range []int{s.Calls(), s.Pending(), s.Used(), s.Capacity()} {
		text = append(strconv.AppendInt(text, int64(n), 10), ' ')
	}
	text = strconv.AppendBool(text, s.Dead())
	for _, blobs := range [][]api.Blob{s.Image(), s.Durable()} {
		text = append(text, " |"...)
		for _, b := range blobs {
			text = append(text, ' ')
			text = append(text, b.Name...)
			text = append(text, ':')
			text = strconv.AppendInt(text, int64(len(b.Data)), 10)
			text = append(text, ':')
			text = append(text, b.Data...)
		}
	}
	return string(text)
}
