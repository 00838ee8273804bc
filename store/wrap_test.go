package store

import "testing"

// P14.7: Calls are told modulo 2 to the power 62: no test could make so many.
func TestWrap(t *testing.T) {
	t.Parallel()
	s := &Store{calls: 1<<62 - 2}
	for _, want := range []int{1<<62 - 1, 0, 1} {
		if s.Sync(); s.Calls() != want {
			t.Errorf("P14.7: Calls() = %d, want %d", s.Calls(), want)
		}
	}
}
