package status

import (
	"maps"
	"slices"

	"larder/api"
	"larder/control"
	"larder/copies"
)

// ledger is a state that may be, into which commits that may be are entered one by one. (A commit takes as long as it has parts, however much is held: a journal may have thousands of them.)
type ledger struct {
	seq, group int
	held       map[string]api.Held
	paths      map[string]struct{} // of what is held
	former     map[string]former   // of each name that the last change touched
	past       []api.Entry
}

// former is what was held of a name ahead of the last change.
type former struct {
	held  api.Held
	there bool
}

// ledgerOf tells the ledger of a state. (All that is held counts as brought by the last change, as far as Before does not say otherwise.)
func ledgerOf(s api.State) *ledger {
	l := &ledger{seq: s.Seq, group: s.Group, held: map[string]api.Held{}, paths: map[string]struct{}{}, former: map[string]former{}, past: slices.Clone(s.Past)}
	for _, h := range s.Held {
		l.bring(h)
	}
	for _, h := range s.Before {
		l.former[h.Name] = former{h, true}
	}
	return l
}

// enter makes of the state the one behind a commit. (Where the commit does not fit, the ledger is good for nothing any more.)
func (l *ledger) enter(c api.Commit) api.Errno {
	if !l.follows(c.Seq, c.Group) {
		return api.ErrStaFit
	}
	if c.Group != l.group {
		l.former = map[string]former{}
	}
	entry := api.Entry{Seq: c.Seq, Group: c.Group, Out: l.keys(c.Out), In: keysOf(c.In)}
	if !every(c.Out, l.drop) || !every(c.Marks, l.turn) || !every(c.In, l.bring) || len(l.held) > api.MaxUniverse {
		return api.ErrStaFit
	}
	l.seq, l.group = c.Seq, c.Group
	l.past = append(l.past, entry)
	l.past = l.past[max(0, len(l.past)-api.MaxPast):]
	return api.OK
}

// follows tells whether a commit may have such numbers. (The groups of the entries may not fall, and a state's own may be below that of its last one.)
func (l *ledger) follows(seq, group int) bool {
	if seq != l.seq+1 || group != seq && group != l.group {
		return false
	}
	return len(l.past) == 0 || group >= l.past[len(l.past)-1].Group
}

// touch keeps what was held of a name ahead of the last change.
func (l *ledger) touch(name string) {
	if _, known := l.former[name]; !known {
		h, there := l.held[name]
		l.former[name] = former{h, there}
	}
}

func (l *ledger) drop(name string) bool {
	h, there := l.held[name]
	l.touch(name)
	delete(l.held, name)
	for _, f := range h.Files {
		delete(l.paths, f.Path)
	}
	return there
}

func (l *ledger) turn(name string) bool {
	h, there := l.held[name]
	l.touch(name)
	h.Mark = api.MarkManual + api.MarkAuto - h.Mark
	l.held[name] = h
	return there
}

func (l *ledger) bring(h api.Held) bool {
	_, there := l.held[h.Name]
	l.touch(h.Name)
	l.held[h.Name] = h
	for _, f := range h.Files {
		if _, taken := l.paths[f.Path]; taken {
			return false
		}
		l.paths[f.Path] = struct{}{}
	}
	return !there
}

// keys tells the keys of what is held of some names.
func (l *ledger) keys(names []string) []api.Key {
	list := make([]api.Key, len(names))
	for i, name := range names {
		list[i] = control.Key(l.held[name].Package)
	}
	return list
}

// before tells what was held ahead of the last change.
func (l *ledger) before() map[string]api.Held {
	all := maps.Clone(l.held)
	for name, f := range l.former {
		if f.there {
			all[name] = f.held
		} else {
			delete(all, name)
		}
	}
	return all
}

// state tells the state, in memory of its own.
func (l *ledger) state() api.State {
	return copies.State(api.State{Seq: l.seq, Held: byName(l.held), Group: l.group, Before: byName(l.before()), Past: l.past})
}

func byName(held map[string]api.Held) []api.Held {
	list := make([]api.Held, 0, len(held))
	for _, name := range slices.Sorted(maps.Keys(held)) {
		list = append(list, held[name])
	}
	return list
}

func keysOf(held []api.Held) []api.Key {
	list := make([]api.Key, len(held))
	for i, h := range held {
		list[i] = control.Key(h.Package)
	}
	return list
}
