package status_test

import (
	"cmp"
	"fmt"
	"slices"
	"strings"

	"larder/api"
	"larder/control"
	"larder/debver"
	"larder/journal"
	"larder/relation"
	"larder/samples"
	"larder/stanza"
	"larder/store"
)

// heldOf reads installed packages as samples.Packages does; `auto` among the words of one is its mark.
func heldOf(text string) []api.Held {
	var list []api.Held
	for _, part := range samples.Parts(text) {
		words, auto := strings.CutSuffix(part, " auto")
		h := api.Held{Package: samples.Package(words), Mark: api.MarkManual}
		if auto {
			h.Mark = api.MarkAuto
		}
		list = append(list, h)
	}
	return list
}

// commitOf makes a commit: names by words, packages by heldOf.
func commitOf(seq, group int, out, in, marks string) api.Commit {
	return api.Commit{Seq: seq, Group: group, Out: strings.Fields(out), In: heldOf(in), Marks: strings.Fields(marks)}
}

// told tells all of a state, or of a commit, nil as empty.
func told(x any) string { return fmt.Sprintf("%+v", x) }

// le tells a number's bytes, the least first.
func le(n uint64, size int) string {
	text := ""
	for range size {
		text += string([]byte{byte(n % 256)})
		n /= 256
	}
	return text
}

func textOf(s string) string { return le(uint64(len(s)), 4) + s }

func listOf[T any](list []T, item func(T) string) string {
	var b strings.Builder
	b.WriteString(le(uint64(len(list)), 4))
	for _, x := range list {
		b.WriteString(item(x))
	}
	return b.String()
}

func packageBytes(h api.Held) string {
	return le(uint64(h.Mark), 1) + textOf(string(samples.Must(control.Print(h.Package))))
}

func keyBytes(k api.Key) string { return textOf(k.Name) + textOf(k.Version) }

func stepBytes(s api.Step) string { return le(uint64(s.Kind), 1) + textOf(s.From) + textOf(s.To) }

func entryBytes(entry api.Entry) string {
	return le(uint64(entry.Seq), 8) + le(uint64(entry.Group), 8) + listOf(entry.Out, keyBytes) + listOf(entry.In, keyBytes)
}

// commitBytes tells the body of a commit that may be.
func commitBytes(c api.Commit) string {
	return "\x01" + le(uint64(c.Seq), 8) + le(uint64(c.Group), 8) + listOf(c.Out, textOf) + listOf(c.In, packageBytes) + listOf(c.Marks, textOf) + listOf(c.Steps, stepBytes)
}

// stateBytes tells the body of a checkpoint of a state that may be.
func stateBytes(s api.State) string {
	return "\x02" + le(uint64(s.Seq), 8) + le(uint64(s.Group), 8) + listOf(s.Held, packageBytes) + listOf(s.Before, packageBytes) + listOf(s.Past, entryBytes)
}

// risesBy tells whether names rise, none twice.
func risesBy[T any](list []T, name func(T) string) bool {
	for i, x := range list {
		for _, y := range list[:i] {
			if name(y) >= name(x) {
				return false
			}
		}
	}
	return true
}

func nameOf(h api.Held) string   { return h.Name }
func nameOfKey(k api.Key) string { return k.Name }
func ownName(name string) string { return name }
func isName(name string) bool    { return relation.CheckName(name) == api.OK }
func keyOf(h api.Held) api.Key   { return api.Key{Name: h.Name, Version: h.Version} }
func isVersion(version string) bool {
	_, e := debver.Parse(version)
	return e == api.OK
}

func heldMayBe(held []api.Held) bool {
	if len(held) > 131071 || !risesBy(held, nameOf) {
		return false
	}
	for _, h := range held {
		if control.Check(h.Package) != api.OK || h.Mark != api.MarkManual && h.Mark != api.MarkAuto {
			return false
		}
	}
	return true
}

func onePathTwice(held []api.Held) bool {
	var paths []string
	for _, h := range held {
		for _, f := range h.Files {
			if slices.Contains(paths, f.Path) {
				return true
			}
			paths = append(paths, f.Path)
		}
	}
	return false
}

func keysMayBe(keys []api.Key) bool {
	for _, k := range keys {
		if !isName(k.Name) || !isVersion(k.Version) {
			return false
		}
	}
	return risesBy(keys, nameOfKey)
}

// stateMayBe is 'a state may be', word by word.
func stateMayBe(s api.State) bool {
	if s.Seq < 0 || s.Seq > 1<<48-1 || s.Group < 0 || s.Group > s.Seq {
		return false
	}
	if !heldMayBe(s.Held) || !heldMayBe(s.Before) || onePathTwice(s.Held) || onePathTwice(s.Before) || len(s.Past) > 256 {
		return false
	}
	for i, entry := range s.Past {
		if i > 0 && (entry.Seq != s.Past[i-1].Seq+1 || entry.Group < s.Past[i-1].Group) {
			return false
		}
		if entry.Group < 1 || entry.Group > entry.Seq || !keysMayBe(entry.Out) || !keysMayBe(entry.In) {
			return false
		}
	}
	if n := len(s.Past); n > 0 && s.Past[n-1].Seq != s.Seq {
		return false
	}
	return takenBack(s)
}

// takenBack tells whether the entries can be taken back, the last one first.
func takenBack(s api.State) bool {
	var keys []api.Key
	for _, h := range s.Held {
		keys = append(keys, keyOf(h))
	}
	for i := len(s.Past) - 1; i >= 0; i-- {
		for _, k := range s.Past[i].In {
			at := slices.Index(keys, k)
			if at < 0 {
				return false
			}
			keys = slices.Delete(keys, at, at+1)
		}
		for _, k := range s.Past[i].Out {
			if slices.ContainsFunc(keys, func(other api.Key) bool { return other.Name == k.Name }) {
				return false
			}
		}
		keys = append(keys, s.Past[i].Out...)
	}
	return true
}

func namesMayBe(names []string) bool {
	for _, name := range names {
		if !isName(name) {
			return false
		}
	}
	return risesBy(names, ownName)
}

// commitMayBe is 'a commit may be', as P16.1 lists it.
func commitMayBe(c api.Commit) bool {
	for _, s := range c.Steps {
		if s.Kind < 0 || s.Kind > 255 || len(s.From) > 258 || len(s.To) > 258 {
			return false
		}
	}
	return c.Seq >= 1 && c.Seq <= 1<<48-1 && c.Group >= 1 && c.Group <= c.Seq && namesMayBe(c.Out) && namesMayBe(c.Marks) && heldMayBe(c.In)
}

// stateBehind is 'the state behind it', whether the commit fits or not.
func stateBehind(s api.State, c api.Commit) api.State {
	next := api.State{Seq: c.Seq, Group: c.Group, Before: s.Before, Past: slices.Clone(s.Past)}
	entry := api.Entry{Seq: c.Seq, Group: c.Group}
	for _, h := range s.Held {
		if slices.Contains(c.Out, h.Name) {
			entry.Out = append(entry.Out, keyOf(h))
			continue
		}
		if slices.Contains(c.Marks, h.Name) {
			h.Mark = map[int]int{api.MarkManual: api.MarkAuto, api.MarkAuto: api.MarkManual}[h.Mark]
		}
		next.Held = append(next.Held, h)
	}
	for _, h := range c.In {
		entry.In = append(entry.In, keyOf(h))
		next.Held = append(next.Held, h)
	}
	slices.SortStableFunc(next.Held, func(a, b api.Held) int { return cmp.Compare(a.Name, b.Name) })
	if c.Group != s.Group {
		next.Before = s.Held
	}
	next.Past = append(next.Past, entry)
	for len(next.Past) > 256 {
		next.Past = next.Past[1:]
	}
	return next
}

// commitFits is 'a commit fits a state', word by word.
func commitFits(s api.State, c api.Commit) bool {
	held := func(name string) bool {
		return slices.ContainsFunc(s.Held, func(h api.Held) bool { return h.Name == name })
	}
	comes := func(name string) bool {
		return slices.ContainsFunc(c.In, func(h api.Held) bool { return h.Name == name })
	}
	if c.Seq != s.Seq+1 || c.Group != c.Seq && (c.Group != s.Group || s.Group == 0) {
		return false
	}
	for _, name := range c.Out {
		if !held(name) {
			return false
		}
	}
	for _, h := range c.In {
		if held(h.Name) && !slices.Contains(c.Out, h.Name) {
			return false
		}
	}
	for _, name := range c.Marks {
		if !held(name) || slices.Contains(c.Out, name) || comes(name) {
			return false
		}
	}
	return stateMayBe(stateBehind(s, c))
}

// applied is P16.2.
func applied(s api.State, c api.Commit) (api.State, api.Errno) {
	switch {
	case !stateMayBe(s):
		return api.State{}, api.ErrStaState
	case !commitMayBe(c):
		return api.State{}, api.ErrStaCommit
	case s.Seq == 1<<48-1:
		return api.State{}, api.ErrStaSeq
	case !commitFits(s, c):
		return api.State{}, api.ErrStaFit
	}
	return stateBehind(s, c), api.OK
}

// scan reads a body from its beginning on.
type scan struct {
	rest string
	bad  bool
}

func (s *scan) piece(n int) string {
	if s.bad || n < 0 || n > len(s.rest) {
		s.bad = true
		return ""
	}
	text := s.rest[:n]
	s.rest = s.rest[n:]
	return text
}

func (s *scan) number(size int) int {
	text, n := s.piece(size), uint64(0)
	for i := len(text) - 1; i >= 0; i-- {
		n = n*256 + uint64(text[i])
	}
	if n > 1<<60 {
		s.bad = true
	}
	return int(n)
}

func (s *scan) text() string { return s.piece(s.number(4)) }

func (s *scan) held() api.Held {
	mark, text := s.number(1), s.text()
	paragraphs, _, _ := stanza.Parse([]byte(text))
	if s.bad || len(paragraphs) != 1 {
		s.bad = true
		return api.Held{}
	}
	p, _, e := control.Read(paragraphs[0])
	printed, _ := control.Print(p)
	if e != api.OK || string(printed) != text {
		s.bad = true
	}
	return api.Held{Package: p, Mark: mark}
}

func (s *scan) key() api.Key {
	name := s.text()
	return api.Key{Name: name, Version: s.text()}
}

func (s *scan) step() api.Step {
	kind, from := s.number(1), s.text()
	return api.Step{Kind: kind, From: from, To: s.text()}
}

func (s *scan) entry() api.Entry {
	seq, group, out := s.number(8), s.number(8), scanned(s, s.key)
	return api.Entry{Seq: seq, Group: group, Out: out, In: scanned(s, s.key)}
}

func scanned[T any](s *scan, item func() T) []T {
	var list []T
	for n := s.number(4); n > 0 && !s.bad; n-- {
		list = append(list, item())
	}
	return list
}

// commitIn tells the commit whose body a text is.
func commitIn(body string) (api.Commit, bool) {
	s := scan{rest: body}
	kind, seq, group, out := s.number(1), s.number(8), s.number(8), scanned(&s, s.text)
	in, marks, steps := scanned(&s, s.held), scanned(&s, s.text), scanned(&s, s.step)
	c := api.Commit{Seq: seq, Group: group, Out: out, In: in, Marks: marks, Steps: steps}
	if s.bad || s.rest != "" || kind != 1 || !commitMayBe(c) {
		return api.Commit{}, false
	}
	return c, true
}

// stateIn tells the state of whose checkpoint a text is the body.
func stateIn(body string) (api.State, bool) {
	s := scan{rest: body}
	kind, seq, group, held := s.number(1), s.number(8), s.number(8), scanned(&s, s.held)
	before, past := scanned(&s, s.held), scanned(&s, s.entry)
	state := api.State{Seq: seq, Held: held, Group: group, Before: before, Past: past}
	if s.bad || s.rest != "" || kind != 2 || !stateMayBe(state) {
		return api.State{}, false
	}
	return state, true
}

func frameOf(body string) string { return string(samples.Must(journal.Encode([]byte(body)))) }

// loaded is P16.3, of the files that a store has.
func loaded(files map[string]string) (api.State, api.Commit, bool, api.Errno) {
	fail := func(e api.Errno) (api.State, api.Commit, bool, api.Errno) {
		return api.State{}, api.Commit{}, false, e
	}
	var state api.State
	if data, there := files["d/status"]; there {
		bodies, _ := journal.Decode([]byte(data))
		if len(bodies) != 1 || frameOf(string(bodies[0])) != data {
			return fail(api.ErrStaFile)
		}
		s, ok := stateIn(string(bodies[0]))
		if !ok {
			return fail(api.ErrStaFile)
		}
		state = s
	}
	bodies, _ := journal.Decode([]byte(files["d/journal"]))
	var commits []api.Commit
	for i, body := range bodies {
		c, ok := commitIn(string(body))
		if !ok {
			return fail(api.ErrStaForm)
		}
		if i > 0 && c.Seq != commits[i-1].Seq+1 {
			return fail(api.ErrStaFit)
		}
		commits = append(commits, c)
		if c.Seq <= state.Seq {
			continue
		}
		next, e := applied(state, c)
		if e != api.OK {
			return fail(e)
		}
		state = next
	}
	if len(commits) == 0 {
		return state, api.Commit{}, false, api.OK
	}
	return state, commits[len(commits)-1], true, api.OK
}

// saved is P16.4: just those calls are made on the store that DOC names.
func saved(d *store.Store, s api.State) api.Errno {
	there := func(name string) bool {
		_, e := d.Size(name)
		return e == api.OK
	}
	if !stateMayBe(s) {
		return api.ErrStaState
	}
	e := d.Write("d/status.new", []byte(frameOf(stateBytes(s))))
	if e == api.ErrStoFull && there("d/status.new") {
		if e := d.Remove("d/status.new"); e != api.OK {
			return e
		}
		if e := d.Sync(); e != api.OK {
			return e
		}
	}
	calls := []func() api.Errno{d.Sync, func() api.Errno { return d.Rename("d/status.new", "d/status") }, d.Sync}
	if there("d/journal") {
		calls = append(calls, func() api.Errno { return d.Remove("d/journal") }, d.Sync)
	}
	for _, call := range calls {
		if e != api.OK {
			return e
		}
		e = call()
	}
	return e
}
