package exec

import (
	"slices"

	"larder/api"
	"larder/installed"
	"larder/journal"
	"larder/status"
	"larder/store"
	"larder/tree"
)

// batch is a work over a state, with all that carrying it out takes.
type batch struct {
	commit   api.Commit
	body     []byte    // of the commit
	contents [][]byte  // of what is staged
	lays     bool      // whether packages come or files are laid anew
	behind   api.State // the state behind it
}

// batchOf tells the batch of a work over a state, or the work's fault.
func batchOf(s api.State, w api.Work) (batch, api.Errno) {
	if s.Seq >= api.MaxSeq {
		return batch{}, api.ErrExeLong
	}
	c := commitOf(s, w)
	behind, e := status.Apply(s, c)
	if e != api.OK || !installed.Valid(behind.Held) || !hasContents(w) || !canMend(s, w) || isEmpty(w) {
		return batch{}, api.ErrExeWork
	}
	c.Steps = stepsOf(c.Seq, s, w)
	body, e := status.EncodeCommit(c)
	if e != api.OK {
		return batch{}, api.ErrExeLong
	}
	return batch{commit: c, body: body, contents: contentsOf(w), lays: len(w.In)+len(w.Mend) > 0, behind: behind}, api.OK
}

// frame tells how many bytes its frame has. (Each frame has as many about its body.)
func (b batch) frame() int {
	about, _ := journal.Encode(nil)
	return len(about) + len(b.body)
}

// commitOf tells a work's commit, without its steps.
func commitOf(s api.State, w api.Work) api.Commit {
	c := api.Commit{Seq: s.Seq + 1, Group: w.Group, Out: w.Out, In: w.In, Marks: w.Marks}
	if c.Group == 0 {
		c.Group = c.Seq
	}
	return c
}

func isEmpty(w api.Work) bool { return len(w.Out)+len(w.In)+len(w.Marks)+len(w.Mend) == 0 }

func filesOf(held []api.Held) []api.File {
	var files []api.File
	for _, h := range held {
		files = append(files, h.Files...)
	}
	return files
}

// parted tells which packages of a state go with a work that fits it, and which stay.
func parted(s api.State, w api.Work) (goes, stays []api.Held) {
	for _, h := range s.Held {
		if _, out := slices.BinarySearch(w.Out, h.Name); out {
			goes = append(goes, h)
		} else {
			stays = append(stays, h)
		}
	}
	return goes, stays
}

// hasContents tells whether a work has just the contents of what comes, in its order.
func hasContents(w api.Work) bool { return slices.EqualFunc(w.Files, filesOf(w.In), isOf) }

// canMend tells whether what a work lays anew is of packages that stay, by rising paths.
func canMend(s api.State, w api.Work) bool {
	_, stays := parted(s, w)
	files := map[string]api.File{}
	for _, f := range filesOf(stays) {
		files[f.Path] = f
	}
	for i, b := range w.Mend {
		if i > 0 && w.Mend[i-1].Name >= b.Name || !isOf(b, files[b.Name]) {
			return false
		}
	}
	return true
}

// isOf tells whether a blob has a file's path and its contents. (What lies in a tree is held against its size and sum there: it is asked of a tree of this file alone.)
func isOf(b api.Blob, f api.File) bool {
	name, e := tree.Name(f.Path)
	if e != api.OK || b.Name != f.Path {
		return false
	}
	alone, _ := store.Load([]api.Blob{{Name: name, Data: b.Data}}, 0)
	_, is, _ := tree.Read(alone, f)
	return is
}

// contentsOf tells what is staged for a work.
func contentsOf(w api.Work) [][]byte {
	var list [][]byte
	for _, b := range slices.Concat(w.Files, w.Mend) {
		list = append(list, b.Data)
	}
	return list
}

// stepsOf tells the steps of a work that has no fault: what is laid anew stands behind all that goes and comes, and is staged behind it. (Its paths are those of packages, its numbers are few: no name is refused.)
func stepsOf(seq int, s api.State, w api.Work) []api.Step {
	goes, _ := parted(s, w)
	steps, _ := tree.Steps(seq, installed.Packages(goes), installed.Packages(w.In))
	for i, b := range w.Mend {
		from, _ := tree.Staged(seq, len(w.Files)+i)
		to, _ := tree.Name(b.Name)
		steps = append(steps, api.Step{Kind: api.StepRename, From: from, To: to})
	}
	return steps
}
