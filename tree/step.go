package tree

import (
	"larder/api"
	"larder/store"
)

// Steps tells what has to be done to the files, for what goes and what comes.
func Steps(seq int, out, in []api.Package) ([]api.Step, api.Errno) {
	if !isSeq(seq) {
		return nil, api.ErrArg
	}
	comes, e := Manifest(in)
	if e != api.OK {
		return nil, e
	}
	goes, e := Manifest(out)
	if e != api.OK {
		return nil, e
	}
	steps := renames(seq, in)
	for _, f := range goes {
		if !has(comes, f.Path) {
			steps = append(steps, api.Step{Kind: api.StepRemove, To: treePart + f.Path})
		}
	}
	return steps, api.OK
}

// renames tells the steps that lay what comes, in the order in which it is staged.
func renames(seq int, in []api.Package) []api.Step {
	var steps []api.Step
	for _, p := range in {
		for _, f := range p.Files {
			from := stagedName(seq, len(steps))
			steps = append(steps, api.Step{Kind: api.StepRename, From: from, To: treePart + f.Path})
		}
	}
	return steps
}

// Check tells whether steps may be.
func Check(steps []api.Step) api.Errno {
	for _, step := range steps {
		if !mayBe(step) {
			return api.ErrTreeStep
		}
	}
	// One set is enough for both: no staged file's name is a tree's.
	named := map[string]struct{}{}
	count := 0
	for _, step := range steps {
		named[step.To] = struct{}{}
		count++
		if step.From != "" {
			named[step.From] = struct{}{}
			count++
		}
	}
	if len(named) < count {
		return api.ErrTreeTwice
	}
	return api.OK
}

func mayBe(step api.Step) bool {
	switch step.Kind {
	case api.StepRename:
		return kindOf(step.From) == kindStaged && kindOf(step.To) == kindTree
	case api.StepRemove:
		return step.From == "" && kindOf(step.To) == kindTree
	}
	return false
}

// Stage writes what comes beside the tree.
func Stage(s *store.Store, seq int, contents [][]byte) api.Errno {
	if s == nil || !isSeq(seq) {
		return api.ErrArg
	}
	for k, data := range contents {
		if e := s.Write(stagedName(seq, k), data); e != api.OK {
			return e
		}
	}
	return api.OK
}

// Do does what is not done yet of the steps.
func Do(s *store.Store, steps []api.Step) (int, api.Errno) {
	if e := ready(s); e != api.OK {
		return 0, e
	}
	if e := Check(steps); e != api.OK {
		return 0, e
	}
	done := 0
	for _, step := range steps {
		e := do(s, step)
		if e == api.ErrStoNone { // an earlier Do has done it
			continue
		}
		if e != api.OK {
			return done, e
		}
		done++
	}
	return done, api.OK
}

func do(s *store.Store, step api.Step) api.Errno {
	switch step.Kind {
	case api.StepRename:
		return s.Rename(step.From, step.To)
	default:
		return s.Remove(step.To)
	}
}

// Clean removes the staged files that no step wants.
func Clean(s *store.Store, keep []api.Step) (int, api.Errno) {
	if e := ready(s); e != api.OK {
		return 0, e
	}
	kept := map[string]struct{}{}
	for _, step := range keep {
		kept[step.From] = struct{}{}
	}
	removed := 0
	for name := range s.Names(stagedPart) {
		if _, is := kept[name]; is {
			continue
		}
		if e := s.Remove(name); e != api.OK {
			return removed, e
		}
		removed++
	}
	return removed, api.OK
}
