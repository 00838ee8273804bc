package samples_test

import (
	"slices"
	"testing"

	"larder/samples"
)

func TestTexts(t *testing.T) {
	if got, want := samples.Texts([]string{"a", "bc"}, 2), []string{"", "a", "bc", "aa", "abc", "bca", "bcbc"}; !slices.Equal(got, want) {
		t.Errorf("Texts = %q, want %q", got, want)
	}
	if got := samples.Texts([]string{"a"}, 0); !slices.Equal(got, []string{""}) {
		t.Errorf("Texts of no pieces = %q", got)
	}
}

func TestRoomy(t *testing.T) {
	list := []int{1, 2}
	got := samples.Roomy(list, 9)
	if !slices.Equal(got, list) || !slices.Equal(got[:cap(got)], []int{1, 2, 9, 9}) {
		t.Errorf("Roomy = %v, %v", got, got[:cap(got)])
	}
	if got[0] = 3; list[0] != 1 {
		t.Error("Roomy answers the list itself")
	}
}
