// Package samples makes what the tests of several layers are fed with. No layer calls it.
package samples

// Texts tells all texts of at most so many of the given pieces, the shorter ones first.
func Texts(pieces []string, most int) []string {
	all := []string{""}
	for from := 0; most > 0; most-- {
		end := len(all)
		for _, text := range all[from:end] {
			for _, piece := range pieces {
				all = append(all, text+piece)
			}
		}
		from = end
	}
	return all
}

// Roomy tells a copy of a list with room for two beyond its end, which holds what nobody may touch or look at.
func Roomy[T any](list []T, beyond T) []T {
	room := append(make([]T, 0, len(list)+2), list...)
	room = append(room, beyond, beyond)
	return room[:len(list)]
}
