package shell

import (
	"strconv"
	"strings"

	"larder/api"
)

// tell tells a line.
func (s *session) tell(words ...string) {
	s.told.WriteString(strings.Join(words, " "))
	s.told.WriteByte('\n')
}

// tellError tells an error, or that there is none.
func (s *session) tellError(e api.Errno) {
	if e == api.OK {
		s.tell("ok")
		return
	}
	s.tell("error", strconv.Itoa(int(e)))
}

// tellList tells a line for each thing of a list, and how many they are.
func tellList[T any](s *session, list []T, line func(T) string) {
	for _, x := range list {
		s.tell(line(x))
	}
	s.tellCount(len(list))
}

// tellCount tells a number, and that all is well.
func (s *session) tellCount(n int) { s.tell("ok", strconv.Itoa(n)) }

// tellListOr tells an error, or a list where there is none.
func tellListOr[T any](s *session, list []T, e api.Errno, line func(T) string) {
	if e != api.OK {
		s.tellError(e)
		return
	}
	tellList(s, list, line)
}

// tellOutcome tells what a request has come to.
func (s *session) tellOutcome(o api.Outcome) {
	why := strconv.Itoa(int(o.Why))
	switch o.Answer {
	case api.AnswerOk:
		s.tellProgress("ok", o)
	case api.AnswerMalformed:
		s.tell("malformed", strconv.Itoa(o.Line), why)
	case api.AnswerUnsat:
		s.tell("unsat")
	case api.AnswerCycle:
		s.tell("cycle")
	case api.AnswerBudget:
		s.tell("budget")
	case api.AnswerFull:
		s.tellProgress("full", o)
	case api.AnswerArchive:
		s.tell("archive", keyText(o.Who))
	case api.AnswerPower:
		s.tellProgress("power", o)
	case api.AnswerRefused:
		s.tell("refused", why)
	default:
		s.tell("none")
	}
}

// tellProgress tells how much of a request was carried out.
func (s *session) tellProgress(answer string, o api.Outcome) {
	s.tell(answer, strconv.Itoa(o.Done), "of", strconv.Itoa(o.Planned))
}
