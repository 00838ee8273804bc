package samples_test

import (
	"slices"
	"testing"

	"larder/samples"
)

func TestTexts(t *testing.T) {
	if got, want := samples.Texts([]string{"a", "bc"}, 2), []string{"", "a", "bc", "aa", "abc", "bca", "bcbc"}; !slices.Equal(got, want) {
		t.Errorf("Texts = %q, want %q", got, want)
	}
	if got := samples.Texts([]string{"a"}, 0); !slices.Equal(got, []string{""}) {
		t.Errorf("Texts of no pieces = %q", got)
	}
}

func TestRoomy(t *testing.T) {
	list := []int{1, 2}
	got := samples.Roomy(list, 9)
	if !slices.Equal(got, list) || !slices.Equal(got[:cap(got)], []int{1, 2, 9, 9}) {
		t.Errorf("Roomy = %v, %v", got, got[:cap(got)])
	}
	if got[0] = 3; list[0] != 1 {
		t.Error("Roomy answers the list itself")
	}
}

func TestLists(t *testing.T) {
	want := [][]int{nil, {7}, {8}, {7, 7}, {7, 8}, {8, 7}, {8, 8}}
	if got := samples.Lists([]int{7, 8}, 2); !slices.EqualFunc(got, want, slices.Equal) {
		t.Errorf("Lists = %v, want %v", got, want)
	}
	if got := samples.Lists([]int{}, 2); len(got) != 1 || len(got[0]) != 0 {
		t.Errorf("Lists of no items = %v", got)
	}
}

func TestRoom(t *testing.T) {
	list := samples.Roomy([]int{1}, 9)
	copied := samples.Room(list)
	samples.Fill(list, 5)
	if !slices.Equal(copied, []int{1, 9, 9}) || !slices.Equal(list[:cap(list)], []int{5, 5, 5}) {
		t.Errorf("Room = %v, filled %v", copied, list[:cap(list)])
	}
}

func TestRows(t *testing.T) {
	same := func(a, b [][]int) bool { return slices.EqualFunc(a, b, slices.Equal) }
	list := [][]int{{1, 2}, nil}
	rows := samples.RoomyRows(list, 9)
	copied := samples.RoomOfRows(rows)
	if !same(rows, list) || !same(copied, [][]int{{1, 2, 9, 9}, {9, 9}, {9}, {9}}) {
		t.Errorf("RoomyRows = %v, RoomOfRows = %v", rows, copied)
	}
	first := rows[0]
	samples.FillRows(rows, 5)
	if !slices.Equal(first[:cap(first)], []int{5, 5, 5, 5}) || !same(rows[:cap(rows)], [][]int{{5}, {5}, {5}, {5}}) {
		t.Errorf("FillRows: %v, %v", first[:cap(first)], rows[:cap(rows)])
	}
	if !same(copied, [][]int{{1, 2, 9, 9}, {9, 9}, {9}, {9}}) || !slices.Equal(list[0], []int{1, 2}) {
		t.Error("copies share memory")
	}
}
