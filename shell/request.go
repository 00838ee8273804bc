package shell

import (
	"slices"

	"larder/api"
)

// requestOf tells a request: what is wished, with what goes on from line to line.
func (s *session) requestOf(args []value) api.Request {
	r := api.Request{Budget: s.budget, Pins: s.pins, Holds: s.holds}
	for _, v := range args {
		r.Wishes = append(r.Wishes, v.wish)
	}
	return r
}

func (s *session) apply(args []value) {
	s.tellOutcome(s.front.Apply(s.index, s.requestOf(args), s.archives))
}

func (s *session) plan(args []value) {
	batches, o := s.front.Plan(s.index, s.requestOf(args))
	for _, b := range batches {
		words := []string{"batch"}
		for _, key := range b.Out {
			words = append(words, "-"+keyText(key))
		}
		for _, key := range b.In {
			words = append(words, "+"+keyText(key))
		}
		s.tell(words...)
	}
	s.tellOutcome(o)
}

func (s *session) sweep([]value) { s.tellOutcome(s.front.Sweep(s.holds)) }

func (s *session) undo([]value) { s.tellOutcome(s.front.Undo(s.archives)) }

func (s *session) hold(args []value) {
	if name := args[0].text; !slices.Contains(s.holds, name) {
		s.holds = append(s.holds, name)
	}
	s.tell("ok")
}

func (s *session) free(args []value) {
	s.holds = slices.DeleteFunc(s.holds, func(name string) bool { return name == args[0].text })
	s.tell("ok")
}

func (s *session) pin(args []value) {
	a := args[0].atom
	s.pins = append(s.pins, api.Pin{Name: a.Name, Op: a.Op, Version: a.Version, Priority: args[1].number})
	s.tell("ok")
}

func (s *session) unpin([]value) {
	s.pins = nil
	s.tell("ok")
}

func (s *session) setBudget(args []value) {
	s.budget = args[0].number
	s.tell("ok")
}

func (s *session) forget([]value) {
	s.index, s.archives = nil, nil
	s.tell("ok")
}
