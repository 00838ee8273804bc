package solver

import "larder/api"

// How a literal stands by an assignment, and a variable: as the literal that says true.
const (
	isFalse int8 = -1
	isOpen  int8 = 0
	isTrue  int8 = 1
)

// search is a problem with the assignment that the search goes on from.
type search struct {
	clauses [][]int
	prefer  []int
	liked   int        // ahead of this place each literal of prefer has a value
	values  []int8     // by variables
	trail   []int      // the literals that were made true, in their order
	turns   []decision // those whose second way has not been gone, in their order
}

// decision is where on the trail a literal was chosen, and how far prefer was gone through then.
type decision struct {
	place, liked int
}

// sight is what a scan shows.
type sight struct {
	fails bool
	unit  int // the open literal of the first unit; 0: there is none
	press int // the first open literal of the first clause that presses; 0: there is none
}

// find searches a model of a problem that may be.
func find(n int, clauses [][]int, prefer []int, budget int) api.Found {
	look, made := counted(budget)
	s := &search{clauses: clauses, prefer: prefer, values: make([]int8, n)}
	found := api.Found{Verdict: s.run(look)}
	if found.Verdict == api.Sat {
		found.Values = s.model()
	}
	found.Steps = made()
	return found
}

// counted answers two functions over one count: the first takes one more look, if the budget has one; the second tells how many were taken.
func counted(budget int) (look func() bool, made func() int) {
	looks := 0
	look = func() bool {
		if looks == budget {
			return false
		}
		looks++
		return true
	}
	made = func() int { return looks }
	return look, made
}

// run goes on from the assignment until there is a verdict.
func (s *search) run(look func() bool) int {
	for {
		seen, whole := s.scan(look)
		switch {
		case !whole:
			return api.Spent
		case seen.fails:
			if !s.back() {
				return api.Unsat
			}
		case seen.unit != 0:
			s.set(seen.unit)
		default:
			if !s.decide(seen.press) {
				return api.Sat
			}
		}
	}
}

// scan looks at the clauses, up to the first that is false. It is not whole, if there was one look too few.
func (s *search) scan(look func() bool) (seen sight, whole bool) {
clauses:
	for _, clause := range s.clauses {
		if !look() {
			return sight{}, false
		}
		open, alone, presses := 0, true, true
		for _, l := range clause {
			switch s.stands(l) {
			case isTrue:
				continue clauses
			case isOpen:
				if open == 0 {
					open = l
				}
				alone = alone && l == open
				presses = presses && l > 0
			}
		}
		if open == 0 {
			return sight{fails: true}, true
		}
		if alone && seen.unit == 0 {
			seen.unit = open
		}
		if presses && seen.press == 0 {
			seen.press = open
		}
	}
	return seen, true
}

// stands tells how a literal stands.
func (s *search) stands(l int) int8 {
	if l < 0 {
		return -s.values[variable(l)]
	}
	return s.values[variable(l)]
}

// set makes an open literal true.
func (s *search) set(l int) {
	value := isTrue
	if l < 0 {
		value = isFalse
	}
	s.values[variable(l)] = value
	s.trail = append(s.trail, l)
}

// decide makes the literal true that prefer wants next, else the one that is pressed for; false, if nothing is wanted.
func (s *search) decide(press int) bool {
	for s.liked < len(s.prefer) && s.stands(s.prefer[s.liked]) != isOpen {
		s.liked++
	}
	l := press
	if s.liked < len(s.prefer) {
		l = s.prefer[s.liked]
	}
	if l == 0 {
		return false
	}
	s.turns = append(s.turns, decision{place: len(s.trail), liked: s.liked})
	s.set(l)
	return true
}

// back goes the second way of the last decision that has one left; false, if there is none.
func (s *search) back() bool {
	if len(s.turns) == 0 {
		return false
	}
	last := s.turns[len(s.turns)-1]
	s.turns = s.turns[:len(s.turns)-1]
	first := s.trail[last.place]
	for _, l := range s.trail[last.place:] {
		s.values[variable(l)] = isOpen
	}
	s.trail, s.liked = s.trail[:last.place], last.liked
	s.set(-first)
	return true
}

// model tells the values; what has none is false.
func (s *search) model() []bool {
	values := make([]bool, len(s.values))
	for v, value := range s.values {
		values[v] = value == isTrue
	}
	return values
}
