package orphans

import (
	"slices"

	"larder/api"
)

// want is an atom in clauses of orphans.
type want struct {
	users int   // how many orphans that are left have it
	sum   int   // of their numbers: of a single one it tells which one that is
	met   []int // by which orphans, gone or not
}

// keeps tells whether an orphan that is left, other than this one, has the atom.
func (w want) keeps(orphan int) bool { return w.users > 1 || w.users == 1 && w.sum != orphan }

// drop takes a user away, and tells whom the want keeps no longer.
func (w *want) drop(user int) []int {
	before := *w
	w.users--
	w.sum -= user
	if w.users > 1 {
		return nil
	}
	var freed []int
	for _, orphan := range w.met {
		if before.keeps(orphan) && !w.keeps(orphan) {
			freed = append(freed, orphan)
		}
	}
	return freed
}

// broom is what is known of a family's orphans while they go.
type broom struct {
	family
	wants map[api.Atom]*want
	kept  map[int]int // of orphans: by how many wants
}

// broomOf makes the broom of a search's orphans, of which none is gone.
func broomOf(s *search, orphans []int) broom {
	b := broom{s.family, make(map[api.Atom]*want), make(map[int]int)}
	for _, user := range orphans {
		for a := range s.atoms(user) {
			if b.wants[a] == nil {
				b.wants[a] = &want{met: slices.DeleteFunc(s.table.Satisfiers(a), s.isNeeded)}
			}
			b.wants[a].users++
			b.wants[a].sum += user
		}
	}
	for _, w := range b.wants {
		for _, orphan := range w.met {
			if w.keeps(orphan) {
				b.kept[orphan]++
			}
		}
	}
	return b
}

// sweep lets orphans go, and tells who is kept no longer, rising.
func (b broom) sweep(turn []int) []int {
	var next []int
	for _, user := range turn {
		for a := range b.atoms(user) {
			for _, orphan := range b.wants[a].drop(user) {
				b.kept[orphan]--
				if b.kept[orphan] == 0 {
					next = append(next, orphan)
				}
			}
		}
	}
	slices.Sort(next)
	return next
}

// turns tells the orphans in the order in which they go.
func (s *search) turns() [][]int {
	orphans := s.choose(s.isOrphan)
	b := broomOf(s, orphans)
	var turns [][]int
	isKept := func(orphan int) bool { return b.kept[orphan] > 0 }
	for turn := slices.DeleteFunc(orphans, isKept); len(turn) > 0; turn = b.sweep(turn) {
		turns = append(turns, turn)
	}
	// Each that is kept still is so by another one of them.
	if last := s.choose(isKept); len(last) > 0 {
		turns = append(turns, last)
	}
	return turns
}
