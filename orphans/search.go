package orphans

import (
	"slices"

	"larder/api"
	"larder/relation"
)

// orphaned is the distance of a package that no root needs.
const orphaned = -1

// search goes from the roots of a family to all that they need.
type search struct {
	family
	far   map[api.Key]int // of the packages that it has come to: how far they are from a root
	queue chan int        // members that it has come to, whose clauses it has not looked at
}

// searched makes the search of a set when it has come to its end, or tells what is wrong with the set or the roots.
func searched(u []api.Package, set, roots []int) (*search, api.Errno) {
	f, e := familyOf(u, set, roots)
	if e != api.OK {
		return nil, e
	}
	// Room for the whole set: each member comes once, so nobody waits.
	s := &search{f, make(map[api.Key]int, len(set)), make(chan int, len(set))}
	s.run(roots)
	return s, api.OK
}

func (s *search) run(roots []int) {
	for _, root := range roots {
		member, _ := s.member(root)
		s.reach(member, 0)
	}
	s.endIfEmpty()
	// An atom leads to the same packages each time, and the first time they are nearest.
	asked := make(map[api.Atom]struct{})
	for member := range s.queue {
		for a := range s.atoms(member) {
			if _, again := asked[a]; again {
				continue
			}
			asked[a] = struct{}{}
			for _, satisfier := range s.table.Satisfiers(a) {
				s.reach(satisfier, s.distance(member)+1)
			}
		}
		s.endIfEmpty()
	}
}

// reach comes to a member, unless the search has been there.
func (s *search) reach(member, distance int) {
	if s.isOrphan(member) {
		s.far[s.key(member)] = distance
		s.queue <- member
	}
}

// endIfEmpty closes the queue, if nobody is in it: only those in it bring others.
func (s *search) endIfEmpty() {
	if len(s.queue) == 0 {
		close(s.queue)
	}
}

func (s *search) key(member int) api.Key {
	return api.Key{Name: s.packages[member].Name, Version: s.packages[member].Version}
}

// distance tells how far a member is from a root.
func (s *search) distance(member int) int {
	if n, is := s.far[s.key(member)]; is {
		return n
	}
	return orphaned
}

func (s *search) isNeeded(member int) bool { return !s.isOrphan(member) }

func (s *search) isOrphan(member int) bool { return s.distance(member) == orphaned }

// chain tells the members on a shortest way from a root to one of them; none, if it is an orphan.
func (s *search) chain(to int) []int {
	if s.isOrphan(to) {
		return nil
	}
	nearer := make([][]int, s.distance(to)) // members by their distances
	for _, member := range s.choose(s.isNeeded) {
		if n := s.distance(member); n < len(nearer) {
			nearer[n] = append(nearer[n], member)
		}
	}
	chain := []int{to}
	for _, members := range slices.Backward(nearer) {
		to = s.leastWanting(members, to)
		chain = append(chain, to)
	}
	slices.Reverse(chain)
	return chain
}

// leastWanting tells the first of some members that has a clause which a satisfier meets.
func (s *search) leastWanting(members []int, satisfier int) int {
	for _, member := range members {
		for a := range s.atoms(member) {
			if relation.Meets(a, s.packages[satisfier]) {
				return member
			}
		}
	}
	return orphaned
}
