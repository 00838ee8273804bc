package debver

import (
	"cmp"
	"iter"
	"strings"

	"larder/api"
)

// rankEnd is the rank of a run's end: behind the tilde, ahead of every other byte.
const rankEnd = 1

// Order tells which of two versions comes ahead: -1, 0, 1.
func Order(a, b api.Version) int {
	if d := orderNumbers(digitsOf(a.Epoch), digitsOf(b.Epoch)); d != 0 {
		return d
	}
	if d := orderParts(a.Upstream, b.Upstream); d != 0 {
		return d
	}
	return orderParts(a.Revision, b.Revision)
}

// Segments tells the runs of a part, by turns of bytes that are no digits and of digits.
func Segments(part string) []string {
	var list []string
	for run := range runs(part, "") {
		list = append(list, run)
	}
	return list
}

// runs yields the runs of two parts side by side, the first ones of no digits, till both parts are at their end; a missing run is empty.
func runs(a, b string) iter.Seq2[string, string] {
	return func(yield func(string, string) bool) {
		digits := false
		for i, k := 0, 0; i < len(a) || k < len(b); digits = !digits {
			endA, endB := runEnd(a, i, digits), runEnd(b, k, digits)
			if !yield(a[i:endA], b[k:endB]) {
				return
			}
			i, k = endA, endB
		}
	}
}

// runEnd tells where the run that begins at a place of a part ends.
func runEnd(part string, from int, digits bool) int {
	for from < len(part) && isDigit(part[from]) == digits {
		from++
	}
	return from
}

// orderParts holds two parts against one another, run by run.
func orderParts(a, b string) int {
	digits := false
	for x, y := range runs(a, b) {
		order := orderWords
		if digits {
			order = orderNumbers
		}
		if d := order(x, y); d != 0 {
			return d
		}
		digits = !digits
	}
	return 0
}

// orderWords holds runs of no digits against one another.
func orderWords(a, b string) int {
	for i := range max(len(a), len(b)) {
		if d := cmp.Compare(rankAt(a, i), rankAt(b, i)); d != 0 {
			return d
		}
	}
	return 0
}

// orderNumbers holds runs of digits against one another as numbers; as texts, because no integer has room for all of them.
func orderNumbers(a, b string) int {
	a, b = strings.TrimLeft(a, "0"), strings.TrimLeft(b, "0")
	if d := cmp.Compare(len(a), len(b)); d != 0 {
		return d
	}
	return cmp.Compare(a, b)
}

// rankAt tells the rank of what stands at a place of a run: a byte, or the end.
func rankAt(run string, i int) int {
	if i >= len(run) {
		return rankEnd
	}
	return rank(run[i])
}

func rank(b byte) int {
	switch {
	case b == '~':
		return 0
	case isLetter(b):
		return 2 + int(b)
	default:
		return 300 + int(b)
	}
}

// digitsOf leaves away what is no digit: parts made by hand may have an epoch of any bytes.
func digitsOf(epoch string) string {
	if consists(epoch, isDigit) {
		return epoch
	}
	kept := make([]byte, 0, len(epoch))
	for i := range len(epoch) {
		if isDigit(epoch[i]) {
			kept = append(kept, epoch[i])
		}
	}
	return string(kept)
}
