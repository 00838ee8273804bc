package shell

import (
	"strconv"

	"larder/api"
	"larder/history"
	"larder/installed"
)

func (s *session) list([]value) {
	tellList(s, s.front.Query(), func(h api.Held) string { return keyText(installed.Key(h)) + " " + marks[h.Mark] })
}

func (s *session) paths([]value) {
	tellList(s, s.front.Paths(), func(path string) string { return path })
}

func (s *session) cat(args []value) {
	data, e := s.front.Read(args[0].text)
	if e != api.OK {
		s.tellError(e)
		return
	}
	s.tell("ok", dataText(data))
}

func (s *session) owner(args []value) {
	key, is := s.front.Owner(args[0].text)
	if !is {
		s.tell("ok", "none")
		return
	}
	s.tell("ok", keyText(key))
}

func (s *session) orphans([]value) { tellList(s, s.front.Orphans(s.holds), keyText) }

func (s *session) history([]value) {
	entries := s.front.History()
	s.told.WriteString(history.Text(entries))
	s.tellCount(len(entries))
}

func (s *session) seq([]value) { s.tellCount(s.front.Seq()) }

func (s *session) why(args []value) {
	chain, e := s.front.Chain(args[0].text)
	tellListOr(s, chain, e, keyText)
}

func (s *session) blame(args []value) {
	rules, verdict, e := s.front.Blame(s.index, s.requestOf(args))
	if e != api.OK {
		s.tellError(e)
		return
	}
	s.tell("ok", strconv.Itoa(verdict), strconv.Itoa(len(rules)))
}

func (s *session) audit([]value) {
	wrong, e := s.front.Audit()
	tellListOr(s, wrong, e, wrongText)
}

func (s *session) repair([]value) {
	left, e := s.front.Repair(s.archives)
	tellListOr(s, left, e, wrongText)
}

// wrongText tells a file that is not as it should be.
func wrongText(w api.Wrong) string {
	text := strconv.Itoa(w.Kind) + " " + w.Path
	if w.Who != (api.Key{}) {
		text += " " + keyText(w.Who)
	}
	return text
}

func (s *session) mark(args []value) { s.tellError(s.front.Mark(args[0].text, args[1].number)) }
