package history

import (
	"maps"
	"slices"

	"larder/api"
	"larder/installed"
)

// holding is what is held at a time, by names.
type holding map[string]api.Key

// now tells what a state holds.
func now(s api.State) holding {
	h := holding{}
	for _, p := range s.Held {
		h[p.Name] = installed.Key(p)
	}
	return h
}

// takeBack makes of what was held behind a commit what was held ahead of it.
func (h holding) takeBack(entry api.Entry) {
	for _, key := range entry.In {
		delete(h, key.Name)
	}
	for _, key := range entry.Out {
		h[key.Name] = key
	}
}

// keys tells all of them, by rising names.
func (h holding) keys() []api.Key {
	list := make([]api.Key, 0, len(h))
	for _, name := range slices.Sorted(maps.Keys(h)) {
		list = append(list, h[name])
	}
	return list
}

// changesOf tells what the changes of a state did all in all, the oldest first.
func changesOf(s api.State) []api.Entry {
	var list []api.Entry
	held := now(s)
	i := len(s.Past) - 1
change:
	last, behind := i, touched{}
	for ; i >= 0; i-- {
		behind.keep(held, s.Past[i])
		held.takeBack(s.Past[i])
		if i == 0 || s.Past[i-1].Group != s.Past[i].Group {
			entry := api.Entry{Seq: s.Past[last].Seq, Group: s.Past[last].Group}
			entry.Out, entry.In = behind.since(held)
			list = append(list, entry)
			i--
			goto change
		}
	}
	slices.Reverse(list)
	return list
}

// touched is what was held behind a change of each name that it touched: a key without a name, if nothing was. (What else was held is not kept: there may be much of it.)
type touched map[string]api.Key

// keep takes up the names of a commit that no later one of the change touched, of which all is still held as it was behind the change.
func (t touched) keep(held holding, entry api.Entry) {
	for _, key := range slices.Concat(entry.Out, entry.In) {
		if _, known := t[key.Name]; !known {
			t[key.Name] = held[key.Name]
		}
	}
}

// since tells what has gone and what has come since something else was held.
func (t touched) since(ahead holding) (out, in []api.Key) {
	for _, name := range slices.Sorted(maps.Keys(t)) {
		was, is := ahead[name], t[name]
		if was == is {
			continue
		}
		if was.Name != "" {
			out = append(out, was)
		}
		if is.Name != "" {
			in = append(in, is)
		}
	}
	return out, in
}
