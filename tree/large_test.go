package tree_test

import (
	"fmt"
	"strconv"
	"testing"

	"larder/api"
	"larder/samples"
	"larder/store"
	"larder/tree"
)

// manyPackages tells so many packages with as many files as one may have, of two sums, by falling paths.
func manyPackages(n int) []api.Package {
	ps := make([]api.Package, n)
	path := n * api.MaxFiles
	for i := range ps {
		for range api.MaxFiles {
			path--
			f := api.File{Path: fmt.Sprintf("d/%08d", path), Size: path % 2}
			ps[i].Files = append(ps[i].Files, f)
		}
	}
	return ps
}

// P17.2, P17.5, P17.6, P17.7: a set with very many files.
func TestManyFiles(t *testing.T) {
	t.Parallel()
	const n = 40
	ps := manyPackages(n)
	files, e := tree.Manifest(ps)
	if e != api.OK || len(files) != n*api.MaxFiles || files[0].Path != "d/00000000" || files[1] != ps[n-1].Files[api.MaxFiles-2] {
		t.Fatalf("P17.2: Manifest: %d files, %v", len(files), e)
	}
	twins := tree.Twins(files)
	if len(twins) != 2 || len(twins[0]) != len(files)/2 || twins[0][0] != "d/00000000" || twins[1][0] != "d/00000001" {
		t.Errorf("P17.5: Twins: %d groups", len(twins))
	}
	steps, e := tree.Steps(api.MaxSeq, ps[:n/2], ps[n/4:])
	comes, goes := (n-n/4)*api.MaxFiles, n/4*api.MaxFiles
	if e != api.OK || len(steps) != comes+goes || tree.Check(steps) != api.OK {
		t.Fatalf("P17.6: Steps: %d, %v, want %d", len(steps), e, comes+goes)
	}
	last := api.Step{Kind: api.StepRename, From: "n/281474976710655." + strconv.Itoa(comes-1), To: "t/d/00000000"}
	first := api.Step{Kind: api.StepRemove, To: "t/" + ps[n/4-1].Files[api.MaxFiles-1].Path}
	if steps[comes-1] != last || steps[comes] != first {
		t.Errorf("P17.6: Steps: %v, %v, want %v, %v", steps[comes-1], steps[comes], last, first)
	}
	if e := tree.Check(append(steps, steps[0])); e != api.ErrTreeTwice {
		t.Errorf("P17.7: Check = %v", e)
	}
	ps[n-1].Files[api.MaxFiles-1].Path = ps[0].Files[0].Path
	if _, e := tree.Manifest(ps); e != api.ErrTreeTwice {
		t.Errorf("P17.2: Manifest = %v", e)
	}
}

// P17.3, P17.8 to P17.10: a store with very many files.
func TestManyOnStore(t *testing.T) {
	t.Parallel()
	const n = 20
	ps := manyPackages(n)
	for i := range ps {
		for k, f := range ps[i].Files {
			ps[i].Files[k] = file(f.Path, "12"[:f.Size])
		}
	}
	var contents [][]byte
	for _, f := range allFiles(ps) {
		contents = append(contents, []byte("12"[:f.Size]))
	}
	s := samples.Must(store.New(api.MaxCapacity))
	if e := tree.Stage(s, 1, contents); e != api.OK {
		t.Fatalf("P17.8: Stage: %v", e)
	}
	steps := samples.Must(tree.Steps(1, nil, ps))
	if done, e := tree.Do(s, steps); done != len(contents) || e != api.OK {
		t.Fatalf("P17.9: Do: %d, %v", done, e)
	}
	files := samples.Must(tree.Manifest(ps))
	if missing, changed, extra, e := tree.Differ(s, files); e != api.OK || len(missing)+len(changed)+len(extra) > 0 {
		t.Errorf("P17.3: Differ: %d missing, %d changed, %d extra, %v", len(missing), len(changed), len(extra), e)
	}
	missing, changed, extra, e := tree.Differ(s, files[:len(files)/2])
	if e != api.OK || len(missing)+len(changed) > 0 || len(extra) != len(files)/2 {
		t.Errorf("P17.3: Differ of half of them: %d, %d, %d, %v", len(missing), len(changed), len(extra), e)
	}
	if e := tree.Stage(s, 2, contents); e != api.OK {
		t.Fatalf("P17.8: Stage: %v", e)
	}
	wanted := samples.Must(tree.Steps(2, nil, ps[:n/2]))
	if removed, e := tree.Clean(s, wanted); removed != len(contents)/2 || e != api.OK {
		t.Errorf("P17.10: Clean: %d, %v", removed, e)
	}
	if removed, e := tree.Clean(s, nil); removed != len(contents)/2 || e != api.OK {
		t.Errorf("P17.10: Clean: %d, %v", removed, e)
	}
	gone := samples.Must(tree.Steps(3, ps, nil))
	if done, e := tree.Do(s, gone); done != len(contents) || e != api.OK || s.Used() != 0 || len(s.Image()) != 0 {
		t.Errorf("P17.9: Do: %d, %v", done, e)
	}
}

// P17.3, P17.4, P17.8: a file as long as one may be.
func TestLongFile(t *testing.T) {
	t.Parallel()
	long := make([]byte, api.MaxFile)
	for i := range long {
		long[i] = byte(i % 251)
	}
	s := samples.Must(store.New(2 * api.MaxFile))
	if e := tree.Stage(s, 0, [][]byte{long, long}); e != api.OK {
		t.Fatalf("P17.8: Stage: %v", e)
	}
	if e := tree.Stage(s, 1, [][]byte{nil, {1}}); e != api.ErrStoFull {
		t.Errorf("P17.8: Stage without room: %v", e)
	}
	tree.Do(s, stepsOf("n/0.0>t/a n/0.1>t/b"))
	f := file("a", string(long))
	if files, e := tree.Look(s); e != api.OK || told(files) != told([]api.File{f, file("b", string(long))}) {
		t.Errorf("P17.3: Look: %v, %v", files, e)
	}
	if data, is, e := tree.Read(s, f); string(data) != string(long) || !is || e != api.OK {
		t.Errorf("P17.4: Read: %d bytes, %v, %v", len(data), is, e)
	}
	s.Append("t/a", []byte{0})
	s.Truncate("t/a", api.MaxFile-1)
	if _, is, e := tree.Read(s, f); is || e != api.OK {
		t.Errorf("P17.4: Read of a shorter one: %v, %v", is, e)
	}
}
