// Package samples makes what the tests of several layers are fed with. No layer calls it.
package samples

import (
	"slices"
	"strings"
)

// Texts tells all texts of at most so many of the given pieces, the shorter ones first.
func Texts(pieces []string, most int) []string {
	var all []string
	for _, list := range Lists(pieces, most) {
		all = append(all, strings.Join(list, ""))
	}
	return all
}

// Lists tells all lists of at most so many of the given items, the shorter ones first.
func Lists[T any](items []T, most int) [][]T {
	all := [][]T{nil}
	for from := 0; most > 0; most-- {
		end := len(all)
		for _, list := range all[from:end] {
			for _, item := range items {
				all = append(all, append(slices.Clone(list), item))
			}
		}
		from = end
	}
	return all
}

// Roomy tells a copy of a list with room for two beyond its end, which holds what nobody may touch or look at.
func Roomy[T any](list []T, beyond T) []T {
	room := append(make([]T, 0, len(list)+2), list...)
	room = append(room, beyond, beyond)
	return room[:len(list)]
}

// Room tells a copy of all that a list has room for, to be held against what it has later.
func Room[T any](list []T) []T { return append([]T{}, list[:cap(list)]...) }

// Fill writes over all that a list has room for.
func Fill[T any](list []T, bad T) {
	room := list[:cap(list)]
	for i := range room {
		room[i] = bad
	}
}

// RoomyRows tells a copy of some lists that have room as Roomy makes it, each of them and the list of them.
func RoomyRows[R ~[]T, T any](rows []R, beyond T) []R {
	copied := make([]R, len(rows))
	for i, row := range rows {
		copied[i] = Roomy(row, beyond)
	}
	return Roomy(copied, R{beyond})
}

// RoomOfRows tells a copy of all that some lists have room for.
func RoomOfRows[R ~[]T, T any](rows []R) []R {
	copied := Room(rows)
	for i, row := range copied {
		copied[i] = Room(row)
	}
	return copied
}

// FillRows writes over all that some lists have room for.
func FillRows[R ~[]T, T any](rows []R, bad T) {
	for _, row := range rows[:cap(rows)] {
		Fill(row, bad)
	}
	Fill(rows, R{bad})
}
