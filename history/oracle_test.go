package history_test

import (
	"cmp"
	"fmt"
	"math"
	"regexp"
	"slices"
	"strconv"
	"strings"
	"testing"

	"larder/api"
	"larder/control"
	"larder/debver"
	"larder/history"
	"larder/relation"
	"larder/samples"
	"larder/status"
)

// told tells things as text; nil and empty are one.
func told(things ...any) string { return fmt.Sprintf("%+v", things) }

func sameEntries(a, b []api.Entry) bool { return status.Same(api.State{Past: a}, api.State{Past: b}) }

func sameHeld(a, b []api.Held) bool { return status.Same(api.State{Held: a}, api.State{Held: b}) }

func samePackages(a, b []api.Package) bool { return slices.EqualFunc(a, b, control.Same) }

// played tells the state behind some commits on a state, each as samples.Work reads it; one without a group is a change of its own.
func played(s api.State, works ...string) api.State {
	for _, text := range works {
		s = samples.Must(status.Apply(s, commitOf(s, samples.Work(text))))
	}
	return s
}

// commitOf tells a work's commit over a state.
func commitOf(s api.State, w api.Work) api.Commit {
	c := api.Commit{Seq: s.Seq + 1, Group: w.Group, Out: w.Out, In: w.In, Marks: w.Marks}
	if c.Group == 0 {
		c.Group = c.Seq
	}
	return c
}

// entriesOf reads entries as `2 1 -aa=1 +bb=1`, `; ` between them.
func entriesOf(text string) []api.Entry {
	var list []api.Entry
	for _, part := range samples.Parts(text) {
		words := strings.Fields(part)
		entry := api.Entry{}
		entry.Seq, _ = strconv.Atoi(words[0])
		entry.Group, _ = strconv.Atoi(words[1])
		for _, word := range words[2:] {
			if word[0] == '-' {
				entry.Out = append(entry.Out, samples.Keys(word[1:])...)
			} else {
				entry.In = append(entry.In, samples.Keys(word[1:])...)
			}
		}
		list = append(list, entry)
	}
	return list
}

func keyOf(h api.Held) api.Key { return api.Key{Name: h.Name, Version: h.Version} }

func byName(a, b api.Key) int { return cmp.Compare(a.Name, b.Name) }

// heldThen is what was held behind a commit: what is held, taken back entry by entry.
func heldThen(s api.State, seq int) []api.Key {
	var keys []api.Key
	for _, h := range s.Held {
		keys = append(keys, keyOf(h))
	}
	for _, entry := range slices.Backward(s.Past) {
		if entry.Seq > seq {
			keys = slices.DeleteFunc(keys, func(k api.Key) bool { return slices.Contains(entry.In, k) })
			keys = append(keys, entry.Out...)
		}
	}
	slices.SortFunc(keys, byName)
	return keys
}

// without tells those keys of a list that another one has not.
func without(list, other []api.Key) []api.Key {
	return slices.DeleteFunc(slices.Clone(list), func(k api.Key) bool { return slices.Contains(other, k) })
}

// changed is P22.2 of a state that may be: what was held ahead of each change and behind it, one held against the other.
func changed(s api.State) []api.Entry {
	var list []api.Entry
	for i, entry := range s.Past {
		if i > 0 && s.Past[i-1].Group == entry.Group {
			continue
		}
		last := entry.Seq
		for _, other := range s.Past {
			if other.Group == entry.Group {
				last = other.Seq
			}
		}
		ahead, behind := heldThen(s, entry.Seq-1), heldThen(s, last)
		list = append(list, api.Entry{Seq: last, Group: entry.Group, Out: without(ahead, behind), In: without(behind, ahead)})
	}
	return list
}

// ofName tells those entries that have a key of a name.
func ofName(l []api.Entry, name string) []api.Entry {
	var list []api.Entry
	for _, entry := range l {
		is := false
		for _, key := range slices.Concat(entry.Out, entry.In) {
			is = is || key.Name == name
		}
		if is {
			list = append(list, entry)
		}
	}
	return list
}

// undone is P22.4.
func undone(s api.State) ([]api.Package, []api.Held, api.Errno) {
	if status.Check(s) != api.OK {
		return nil, nil, api.ErrHisState
	}
	type marked struct {
		key  api.Key
		mark int
	}
	stanzas := map[api.Key]api.Package{}
	var now, then []marked
	for _, h := range s.Before {
		stanzas[keyOf(h)] = h.Package
		then = append(then, marked{keyOf(h), h.Mark})
	}
	for _, h := range s.Held {
		stanzas[keyOf(h)] = h.Package
		now = append(now, marked{keyOf(h), h.Mark})
	}
	if s.Group == 0 || slices.Equal(now, then) {
		return nil, nil, api.ErrHisNone
	}
	if len(stanzas) > 131071 {
		return nil, nil, api.ErrIdxMany
	}
	var u []api.Package
	for _, p := range stanzas {
		u = append(u, p)
	}
	slices.SortFunc(u, func(a, b api.Package) int {
		return cmp.Or(cmp.Compare(a.Name, b.Name), cmp.Compare(a.Version, b.Version))
	})
	var target []api.Held
	for _, h := range s.Before {
		target = append(target, api.Held{Package: stanzas[keyOf(h)], Mark: h.Mark})
	}
	return u, target, api.OK
}

// namesIn tells the names of a state, some that are none of it among them.
func namesIn(s api.State) []string {
	list := []string{"zz", ""}
	for _, h := range slices.Concat(s.Held, s.Before) {
		list = append(list, h.Name)
	}
	for _, entry := range s.Past {
		for _, key := range slices.Concat(entry.Out, entry.In) {
			list = append(list, key.Name)
		}
	}
	slices.Sort(list)
	return slices.Compact(list)
}

// hold holds all that is told of a state against the oracle.
func hold(t *testing.T, what string, s api.State) {
	t.Helper()
	if status.Check(s) != api.OK {
		holdNone(t, what, s)
		return
	}
	if l, e := history.Entries(s); e != api.OK || !sameEntries(l, s.Past) {
		t.Fatalf("P22.1: %s: Entries = %v, %d, want %v", what, l, e, s.Past)
	}
	for _, name := range namesIn(s) {
		if l, e := history.Of(s, name); e != api.OK || !sameEntries(l, ofName(s.Past, name)) {
			t.Fatalf("P22.1: %s: Of %q = %v, %d, want %v", what, name, l, e, ofName(s.Past, name))
		}
	}
	if l, e := history.Changes(s); e != api.OK || !sameEntries(l, changed(s)) {
		t.Fatalf("P22.2: %s: Changes of %v = %v, %d, want %v", what, s, l, e, changed(s))
	}
	holdAt(t, what, s)
	u, target, e := history.Undo(s)
	wantU, wantTarget, f := undone(s)
	if e != f || !samePackages(u, wantU) || !sameHeld(target, wantTarget) {
		t.Fatalf("P22.4: %s: Undo of %v = %v, %v, %d, want %v, %v, %d", what, s, u, target, e, wantU, wantTarget, f)
	}
}

// holdNone holds that nothing is told of a state that may not be.
func holdNone(t *testing.T, what string, s api.State) {
	t.Helper()
	for _, name := range []string{"aa", ""} {
		if l, e := history.Of(s, name); e != api.ErrHisState || l != nil {
			t.Fatalf("P22.1: %s: Of %q = %v, %d", what, name, l, e)
		}
	}
	for _, seq := range []int{math.MinInt, -1, 0, s.Seq, s.Seq + 1, math.MaxInt} {
		if l, e := history.At(s, seq); e != api.ErrHisState || l != nil {
			t.Fatalf("P22.3: %s: At %d = %v, %d", what, seq, l, e)
		}
	}
	a, e := history.Entries(s)
	b, f := history.Changes(s)
	u, target, g := history.Undo(s)
	if e != api.ErrHisState || f != e || g != e || a != nil || b != nil || u != nil || target != nil {
		t.Fatalf("P22.1 to P22.4: %s: Entries = %v, %d, Changes = %v, %d, Undo = %v, %v, %d", what, a, e, b, f, u, target, g)
	}
}

// holdAt holds At of each number, and of those about them.
func holdAt(t *testing.T, what string, s api.State) {
	t.Helper()
	least := s.Seq - len(s.Past)
	var ahead []api.Key
	for seq := least; seq <= s.Seq; seq++ {
		keys, e := history.At(s, seq)
		if e != api.OK || !slices.Equal(keys, heldThen(s, seq)) {
			t.Fatalf("P22.3: %s: At %d of %v = %v, %d, want %v", what, seq, s, keys, e, heldThen(s, seq))
		}
		if seq > least {
			entry := s.Past[seq-least-1]
			behind := append(without(ahead, entry.Out), entry.In...)
			slices.SortFunc(behind, byName)
			if entry.Seq != seq || !slices.Equal(behind, keys) || len(without(entry.Out, ahead)) > 0 {
				t.Fatalf("P22.7: %s: entry %v leads from %v to %v, not to %v", what, entry, ahead, behind, keys)
			}
		}
		ahead = keys
	}
	for i, key := range ahead {
		if len(ahead) != len(s.Held) || key != keyOf(s.Held[i]) {
			t.Fatalf("P22.7: %s: At of the last commit = %v", what, ahead)
		}
	}
	for _, seq := range []int{least - 1, s.Seq + 1, -1, math.MinInt, math.MaxInt, min(least-2, -7)} {
		if keys, e := history.At(s, seq); e != api.ErrHisWhich || keys != nil {
			t.Fatalf("P22.3: %s: At %d = %v, %d", what, seq, keys, e)
		}
	}
}

// textOf is what Text tells.
func textOf(l []api.Entry) string {
	text := ""
	for _, entry := range l {
		text += fmt.Sprintf("%d %d", entry.Seq, entry.Group)
		for _, k := range entry.Out {
			text += fmt.Sprintf(" -%s=%s", k.Name, k.Version)
		}
		for _, k := range entry.In {
			text += fmt.Sprintf(" +%s=%s", k.Name, k.Version)
		}
		text += "\n"
	}
	return text
}

var (
	lineForm = regexp.MustCompile(`^(0|[1-9][0-9]{0,14}) (0|[1-9][0-9]{0,14})((?: -[^= \n]+=[^ \n]+)*)((?: \+[^= \n]+=[^ \n]+)*)\n$`)
	keyForm  = regexp.MustCompile(` [-+]([^= ]+)=([^ ]+)`)
)

// numberIn reads digits; -1, if that is too much.
func numberIn(digits string) int {
	n, _ := strconv.Atoi(digits)
	if n > 1<<48-1 {
		return -1
	}
	return n
}

func keysIn(text string) ([]api.Key, bool) {
	var list []api.Key
	for _, found := range keyForm.FindAllStringSubmatch(text, -1) {
		k := api.Key{Name: found[1], Version: found[2]}
		if _, e := debver.Parse(k.Version); e != api.OK || relation.CheckName(k.Name) != api.OK {
			return nil, false
		}
		list = append(list, k)
	}
	return list, true
}

// entryIn reads a line with its end.
func entryIn(line string) (api.Entry, bool) {
	found := lineForm.FindStringSubmatch(line)
	if found == nil {
		return api.Entry{}, false
	}
	out, is := keysIn(found[3])
	in, also := keysIn(found[4])
	entry := api.Entry{Seq: numberIn(found[1]), Group: numberIn(found[2]), Out: out, In: in}
	return entry, is && also && entry.Seq >= 0 && entry.Group >= 0
}

// parsed is what Parse tells of a text that is not too long.
func parsed(text string) ([]api.Entry, int, api.Errno) {
	var list []api.Entry
	for _, line := range strings.SplitAfter(text, "\n") {
		if line == "" { // behind the last end
			break
		}
		entry, is := entryIn(line)
		if !is {
			return nil, len(list) + 1, api.ErrHisWhich
		}
		list = append(list, entry)
	}
	return list, 0, api.OK
}

// holdParse holds Parse of a text against the oracle, and Text of what it tells.
func holdParse(t *testing.T, text string) api.Errno {
	t.Helper()
	l, line, e := history.Parse(text)
	want, wantLine, f := parsed(text)
	if e != f || line != wantLine || !sameEntries(l, want) {
		t.Fatalf("P22.5: Parse of %q = %v, %d, %d, want %v, %d, %d", text, l, line, e, want, wantLine, f)
	}
	if e == api.OK && history.Text(l) != text {
		t.Fatalf("P22.5: Text of what Parse tells of %q = %q", text, history.Text(l))
	}
	return e
}
