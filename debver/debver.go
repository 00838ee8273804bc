// Package debver is layer 1: versions of packages: see shared/doc/01-debver.md.
package debver

import (
	"slices"
	"strings"

	"larder/api"
)

// Parse takes a version apart.
func Parse(s string) (api.Version, api.Errno) {
	if len(s) > api.MaxVersion {
		return api.Version{}, api.ErrVerLong
	}
	v := cutParts(s)
	if e := checkParts(v); e != api.OK {
		return api.Version{}, e
	}
	return v, api.OK
}

// Check tells whether parts are a version.
func Check(v api.Version) api.Errno {
	_, e := Text(v)
	return e
}

// Text puts the parts together.
func Text(v api.Version) (string, api.Errno) {
	if !v.Colon && v.Epoch != "" || !v.Revised && v.Revision != "" {
		return "", api.ErrArg
	}
	s := joinParts(v)
	back, e := Parse(s)
	if e != api.OK {
		return "", e
	}
	// A colon or hyphen within a part may have moved the place where the text is cut.
	if back != v {
		return "", api.ErrVerByte
	}
	return s, api.OK
}

// Compare tells which of two texts' versions comes ahead.
func Compare(a, b string) (int, api.Errno) {
	v, e := Parse(a)
	if e != api.OK {
		return 0, e
	}
	w, e := Parse(b)
	if e != api.OK {
		return 0, e
	}
	return Order(v, w), api.OK
}

// Fits tells whether a version is within a bound.
func Fits(version string, op int, bound string) (bool, api.Errno) {
	if op < api.OpAny || op > api.OpMore {
		return false, api.ErrArg
	}
	v, e := Parse(version)
	if e != api.OK {
		return false, e
	}
	if op == api.OpAny {
		return true, api.OK
	}
	b, e := Parse(bound)
	if e != api.OK {
		return false, e
	}
	return holds(Order(v, b), op), api.OK
}

// Sort tells the places of versions, the least one's first.
func Sort(list []string) ([]int, api.Errno) {
	versions := make([]api.Version, len(list))
	places := make([]int, len(list))
	for i, s := range list {
		v, e := Parse(s)
		if e != api.OK {
			return nil, e
		}
		versions[i], places[i] = v, i
	}
	// Stable, because versions of which neither is ahead keep the list's order.
	slices.SortStableFunc(places, func(i, k int) int { return Order(versions[i], versions[k]) })
	return places, api.OK
}

// holds tells whether an operator takes what Order answered of a version and its bound.
func holds(order, op int) bool {
	switch op {
	case api.OpLess:
		return order < 0
	case api.OpAtMost:
		return order <= 0
	case api.OpEqual:
		return order == 0
	case api.OpAtLeast:
		return order >= 0
	default: // OpMore
		return order > 0
	}
}

// cutParts cuts a text at its first colon, and what follows at its last hyphen.
func cutParts(s string) api.Version {
	var v api.Version
	rest := s
	if i := strings.IndexByte(rest, ':'); i >= 0 {
		v.Epoch, v.Colon = rest[:i], true
		rest = rest[i+1:]
	}
	if i := strings.LastIndexByte(rest, '-'); i >= 0 {
		v.Revision, v.Revised = rest[i+1:], true
		rest = rest[:i]
	}
	v.Upstream = rest
	return v
}

// joinParts is the way back from cutParts.
func joinParts(v api.Version) string {
	s := v.Upstream
	if v.Colon {
		s = v.Epoch + ":" + s
	}
	if v.Revised {
		s += "-" + v.Revision
	}
	return s
}

// checkParts tells the first error of parts that cutParts has cut.
func checkParts(v api.Version) api.Errno {
	switch {
	case v.Upstream == "":
		return api.ErrVerEmpty
	case v.Colon && (v.Epoch == "" || !consists(v.Epoch, isDigit)):
		return api.ErrVerEpoch
	case v.Revised && v.Revision == "":
		return api.ErrVerRevision
	case !isDigit(v.Upstream[0]):
		return api.ErrVerStart
	case !consists(v.Upstream, mayBeUpstream) || !consists(v.Revision, mayBeRevision):
		return api.ErrVerByte
	}
	return api.OK
}

// consists tells whether all bytes of a text are of a kind.
func consists(s string, kind func(byte) bool) bool {
	for i := range len(s) {
		if !kind(s[i]) {
			return false
		}
	}
	return true
}

func isDigit(b byte) bool { return '0' <= b && b <= '9' }

func isLetter(b byte) bool { return 'A' <= b && b <= 'Z' || 'a' <= b && b <= 'z' }

func mayBeRevision(b byte) bool {
	return isLetter(b) || isDigit(b) || b == '.' || b == '+' || b == '~'
}

// mayBeUpstream asks for no revision of a hyphen and no epoch of a colon: where they stand upstream, cutParts has found one ahead of them or behind.
func mayBeUpstream(b byte) bool { return mayBeRevision(b) || b == '-' || b == ':' }
