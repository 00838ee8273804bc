package front

import (
	"errors"

	"larder/api"
)

// Why a call that answers an outcome gives up. Each of them is an answer.
var (
	errNone      = errors.New("there is no installer")
	errMalformed = errors.New("the index can't be read")
	errRefused   = errors.New("the request may not be")
	errUnsat     = errors.New("the request can't be met")
	errBudget    = errors.New("the budget is spent")
	errCycle     = errors.New("a Pre-Depends lies in a cycle")
	errArchive   = errors.New("an archive is missing, or another package's")
	errFull      = errors.New("the store is full")
	errPower     = errors.New("the store has no power")
)

// stop is how a call gives up: it is thrown, from wherever it comes up, and caught at the face.
type stop struct {
	reason  error
	outcome api.Outcome // all of it but the answer
}

func (s stop) Error() string { return "larder: " + s.reason.Error() }

// Unwrap tells the reason.
func (s stop) Unwrap() error { return s.reason }

// must gives up for a reason, if there is an error.
func must(e api.Errno, reason error, o api.Outcome) {
	if e != api.OK {
		panic(stop{reason, o})
	}
}

// mustBe gives up, if there is no installer.
func (f *Front) mustBe() {
	if f.isNone() {
		panic(stop{reason: errNone})
	}
}

// mustHavePower gives up, if there is no installer, or the power has failed.
func (f *Front) mustHavePower() {
	f.mustBe()
	must(f.ready(), errPower, api.Outcome{})
}

// caught tells the outcome of a call: what was thrown, if something was, else what the call has come to.
func caught(thrown any, o api.Outcome) api.Outcome {
	switch x := thrown.(type) {
	case nil:
		return o
	case stop:
		x.outcome.Answer = answerOf(x)
		return x.outcome
	}
	panic(thrown)
}

// answerOf tells the answer of what was thrown.
func answerOf(e error) int {
	switch {
	case errors.Is(e, errMalformed):
		return api.AnswerMalformed
	case errors.Is(e, errRefused):
		return api.AnswerRefused
	case errors.Is(e, errUnsat):
		return api.AnswerUnsat
	case errors.Is(e, errBudget):
		return api.AnswerBudget
	case errors.Is(e, errCycle):
		return api.AnswerCycle
	case errors.Is(e, errArchive):
		return api.AnswerArchive
	case errors.Is(e, errFull):
		return api.AnswerFull
	case errors.Is(e, errPower):
		return api.AnswerPower
	}
	return api.AnswerNone
}
