package status

import (
	"slices"

	"larder/api"
	"larder/control"
)

const (
	maxKind = 255
	maxFile = api.MaxPath + 2 // a path in the tree has two bytes ahead of it
)

// Check tells whether a state may be.
func Check(s api.State) api.Errno {
	if within(s.Seq, 0, api.MaxSeq) && within(s.Group, 0, s.Seq) && isSet(s.Held) && isSet(s.Before) && isPast(s) {
		return api.OK
	}
	return api.ErrStaState
}

// CheckCommit tells whether a commit may be.
func CheckCommit(c api.Commit) api.Errno {
	if within(c.Seq, 1, api.MaxSeq) && within(c.Group, 1, c.Seq) && areNames(c.Out) && areHeld(c.In) && areNames(c.Marks) && areSteps(c.Steps) {
		return api.OK
	}
	return api.ErrStaCommit
}

func within(n, least, most int) bool { return least <= n && n <= most }

// rises tells whether of each thing the name is above that of the one ahead of it.
func rises[T any](list []T, name func(T) string) bool {
	for i := 1; i < len(list); i++ {
		if name(list[i-1]) >= name(list[i]) {
			return false
		}
	}
	return true
}

func itself(name string) string    { return name }
func heldName(h api.Held) string   { return h.Name }
func keyName(key api.Key) string   { return key.Name }
func isKey(key api.Key) bool       { return isPackage(api.Package{Name: key.Name, Version: key.Version}) }
func isName(name string) bool      { return isPackage(api.Package{Name: name, Version: "0"}) }
func isPackage(p api.Package) bool { return control.Check(p) == api.OK }

func areNames(names []string) bool {
	return rises(names, itself) && every(names, isName)
}

func areKeys(keys []api.Key) bool {
	return rises(keys, keyName) && every(keys, isKey)
}

func areHeld(held []api.Held) bool {
	return len(held) <= api.MaxUniverse && rises(held, heldName) && every(held, isHeld)
}

func areSteps(steps []api.Step) bool { return every(steps, isStep) }

// every tells whether something is so of all things, one by one up to the first of which it is not.
func every[T any](list []T, is func(T) bool) bool {
	for _, x := range list {
		if !is(x) {
			return false
		}
	}
	return true
}

func isHeld(h api.Held) bool {
	return within(h.Mark, api.MarkManual, api.MarkAuto) && isPackage(h.Package)
}

func isStep(s api.Step) bool {
	return within(s.Kind, 0, maxKind) && len(s.From) <= maxFile && len(s.To) <= maxFile
}

// isSet tells whether packages may be installed side by side.
func isSet(held []api.Held) bool { return areHeld(held) && !sharePath(held) }

// sharePath tells whether a path stands twice among packages.
func sharePath(held []api.Held) bool {
	paths := map[string]struct{}{}
	for _, h := range held {
		for _, f := range h.Files {
			if _, there := paths[f.Path]; there {
				return true
			}
			paths[f.Path] = struct{}{}
		}
	}
	return false
}

// isPast tells whether a state's entries may be those of its last commits.
func isPast(s api.State) bool {
	if len(s.Past) > api.MaxPast {
		return false
	}
	group := 1
	for i, entry := range s.Past {
		ahead := s.Seq - len(s.Past) + i
		if entry.Seq != ahead+1 || !within(entry.Group, group, entry.Seq) || !areKeys(entry.Out) || !areKeys(entry.In) {
			return false
		}
		group = entry.Group
	}
	return canGoBack(s)
}

// canGoBack tells whether the entries can be taken back from what is held, the last one first.
func canGoBack(s api.State) bool {
	held := map[string]api.Key{}
	for _, h := range s.Held {
		held[h.Name] = control.Key(h.Package)
	}
	for _, entry := range slices.Backward(s.Past) {
		if !takeBack(held, entry) {
			return false
		}
	}
	return true
}

// takeBack takes one entry back, if that can be.
func takeBack(held map[string]api.Key, entry api.Entry) bool {
	for _, key := range entry.In {
		if held[key.Name] != key {
			return false
		}
		delete(held, key.Name)
	}
	for _, key := range entry.Out {
		if _, there := held[key.Name]; there {
			return false
		}
		held[key.Name] = key
	}
	return true
}
