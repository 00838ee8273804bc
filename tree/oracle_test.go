package tree_test

import (
	"cmp"
	"crypto/sha256"
	"fmt"
	"io/fs"
	"maps"
	"math/big"
	"regexp"
	"slices"
	"strings"

	"larder/api"
	"larder/samples"
	"larder/store"
)

// told tells a thing as text; nil and empty are one.
func told(things ...any) string { return fmt.Sprintf("%+v", things) }

// file is the file of a path with just these bytes.
func file(path, data string) api.File {
	return api.File{Path: path, Size: len(data), Sum: sha256.Sum256([]byte(data))}
}

// filesOf reads files as "a=1 b/c=23 d=": paths and their bytes.
func filesOf(text string) []api.File {
	var list []api.File
	for _, word := range strings.Fields(text) {
		path, data, _ := strings.Cut(word, "=")
		list = append(list, file(path, data))
	}
	return list
}

// packagesOf reads packages as "aa x=1 y=2; bb z=": names and files.
func packagesOf(text string) []api.Package {
	var list []api.Package
	for _, part := range samples.Parts(text) {
		name, files, _ := strings.Cut(part, " ")
		list = append(list, api.Package{Name: name, Version: "1", Files: filesOf(files)})
	}
	return list
}

// contentsOf reads the bytes of all files of packages, in their order.
func contentsOf(text string) [][]byte {
	var list [][]byte
	for _, part := range samples.Parts(text) {
		for _, word := range strings.Fields(part)[1:] {
			_, data, _ := strings.Cut(word, "=")
			list = append(list, []byte(data))
		}
	}
	return list
}

// stepsOf reads steps as "n/3.0>t/y t/x": a rename, a removal.
func stepsOf(text string) []api.Step {
	var list []api.Step
	for _, word := range strings.Fields(text) {
		from, to, is := strings.Cut(word, ">")
		if is {
			list = append(list, api.Step{Kind: api.StepRename, From: from, To: to})
		} else {
			list = append(list, api.Step{Kind: api.StepRemove, To: from})
		}
	}
	return list
}

// disk is what is seen of a store, as the chapter's words speak of it: bytes by their names.
type disk map[string]string

// diskOf reads a disk as "t/a=1 n/3.0=".
func diskOf(text string) disk {
	d := disk{}
	for _, word := range strings.Fields(text) {
		name, data, _ := strings.Cut(word, "=")
		d[name] = data
	}
	return d
}

func (d disk) String() string {
	var words []string
	for _, name := range slices.Sorted(maps.Keys(d)) {
		words = append(words, name+"="+d[name])
	}
	return strings.Join(words, " ")
}

// store makes a store of it, all durable.
func (d disk) store(capacity int) *store.Store {
	var blobs []api.Blob
	for _, name := range slices.Sorted(maps.Keys(d)) {
		blobs = append(blobs, api.Blob{Name: name, Data: []byte(d[name])})
	}
	return samples.Must(store.Load(blobs, capacity))
}

// seen tells a store's files as a disk is told.
func seen(s *store.Store) string {
	d := disk{}
	for _, b := range s.Image() {
		d[b.Name] = string(b.Data)
	}
	return d.String()
}

// dead is a store without power.
func dead(text string) *store.Store {
	s := diskOf(text).store(99)
	s.Fuse(0)
	s.Sync()
	return s
}

// isPath tells a path as the library knows one.
func isPath(path string) bool {
	return len(path) <= 256 && path != "." && fs.ValidPath(path) && !strings.ContainsFunc(path, func(r rune) bool { return r < 0x21 || r > 0x7e })
}

var stagedForm = regexp.MustCompile(`\An/(0|[1-9][0-9]*)\.(0|[1-9][0-9]*)\z`)

// parsed is what Parse should answer.
func parsed(name string) (path string, seq, k int, kind int) {
	if strings.HasPrefix(name, "t/") && isPath(name[2:]) {
		return name[2:], 0, 0, 1
	}
	parts := stagedForm.FindStringSubmatch(name)
	if parts == nil {
		return "", 0, 0, 0
	}
	a, _ := new(big.Int).SetString(parts[1], 10)
	b, _ := new(big.Int).SetString(parts[2], 10)
	if a.Cmp(big.NewInt(1<<48-1)) > 0 || b.Cmp(big.NewInt(1<<31-1)) > 0 {
		return "", 0, 0, 0
	}
	return "", int(a.Int64()), int(b.Int64()), 2
}

func kindOf(name string) int {
	_, _, _, kind := parsed(name)
	return kind
}

// twice tells whether a text stands in a list more than once.
func twice(list []string) bool {
	return len(slices.Compact(slices.Sorted(slices.Values(list)))) < len(list)
}

func pathsOf(files []api.File) []string {
	var list []string
	for _, f := range files {
		list = append(list, f.Path)
	}
	return list
}

func allFiles(ps []api.Package) []api.File {
	var list []api.File
	for _, p := range ps {
		list = append(list, p.Files...)
	}
	return list
}

// manifest is what Manifest should answer.
func manifest(ps []api.Package) ([]api.File, api.Errno) {
	files := allFiles(ps)
	for _, f := range files {
		if !isPath(f.Path) {
			return nil, api.ErrTreePath
		}
	}
	if twice(pathsOf(files)) {
		return nil, api.ErrTreeTwice
	}
	slices.SortFunc(files, func(a, b api.File) int { return cmp.Compare(a.Path, b.Path) })
	return files, api.OK
}

// lying is what Look should answer.
func (d disk) lying() []api.File {
	var list []api.File
	for _, name := range slices.Sorted(maps.Keys(d)) {
		if path, _, _, kind := parsed(name); kind == 1 {
			list = append(list, file(path, d[name]))
		}
	}
	return list
}

// differ is what Differ should answer of a store with power.
func (d disk) differ(files []api.File) (missing, changed, extra []string, e api.Errno) {
	if twice(pathsOf(files)) {
		return nil, nil, nil, api.ErrTreeTwice
	}
	there := d.lying()
	for _, f := range files {
		switch at := slices.Index(pathsOf(there), f.Path); {
		case at < 0:
			missing = append(missing, f.Path)
		case there[at].Size != f.Size || there[at].Sum != f.Sum:
			changed = append(changed, f.Path)
		}
	}
	for _, f := range there {
		if !slices.Contains(pathsOf(files), f.Path) {
			extra = append(extra, f.Path)
		}
	}
	slices.Sort(missing)
	slices.Sort(changed)
	return missing, changed, extra, api.OK
}

// twins is what Twins should answer: of each file all that have what it has.
func twins(files []api.File) [][]string {
	var groups [][]string
	var begun []api.File
	for _, f := range files {
		f.Path = ""
		if slices.Contains(begun, f) {
			continue
		}
		begun = append(begun, f)
		var group []string
		for _, g := range files {
			if g.Size == f.Size && g.Sum == f.Sum && !slices.Contains(group, g.Path) {
				group = append(group, g.Path)
			}
		}
		if len(group) >= 2 {
			slices.Sort(group)
			groups = append(groups, group)
		}
	}
	// Paths have no nought byte: with one behind each of them, texts are in the order of groups.
	slices.SortFunc(groups, func(a, b []string) int {
		return cmp.Compare(strings.Join(a, "\x00")+"\x00", strings.Join(b, "\x00")+"\x00")
	})
	return groups
}

// stepsBetween is what Steps should answer.
func stepsBetween(seq int, out, in []api.Package) ([]api.Step, api.Errno) {
	if seq < 0 || seq >= 1<<48 {
		return nil, api.ErrArg
	}
	if _, e := manifest(in); e != api.OK {
		return nil, e
	}
	goes, e := manifest(out)
	if e != api.OK {
		return nil, e
	}
	var steps []api.Step
	for k, f := range allFiles(in) {
		steps = append(steps, api.Step{Kind: 1, From: fmt.Sprintf("n/%d.%d", seq, k), To: "t/" + f.Path})
	}
	for _, f := range goes {
		if !slices.Contains(pathsOf(allFiles(in)), f.Path) {
			steps = append(steps, api.Step{Kind: 2, To: "t/" + f.Path})
		}
	}
	return steps, api.OK
}

// wrongSteps is what Check should answer.
func wrongSteps(steps []api.Step) api.Errno {
	var froms, tos []string
	for _, s := range steps {
		rename := s.Kind == 1 && kindOf(s.From) == 2 && kindOf(s.To) == 1
		removal := s.Kind == 2 && s.From == "" && kindOf(s.To) == 1
		if !rename && !removal {
			return api.ErrTreeStep
		}
		if tos = append(tos, s.To); rename {
			froms = append(froms, s.From)
		}
	}
	if twice(tos) || twice(froms) {
		return api.ErrTreeTwice
	}
	return api.OK
}

// do is what Do should do and answer, where the power lasts for so many changes.
func (d disk) do(steps []api.Step, lasts int) (int, api.Errno) {
	if e := wrongSteps(steps); e != api.OK {
		return 0, e
	}
	n := 0
	for _, s := range steps {
		source := s.To
		if s.Kind == 1 {
			source = s.From
		}
		data, there := d[source]
		if !there {
			continue
		}
		if n == lasts {
			return n, api.ErrStoDead
		}
		if n++; s.Kind == 1 {
			d[s.To] = data
		}
		delete(d, source)
	}
	return n, api.OK
}

// clean is what Clean should do and answer, likewise.
func (d disk) clean(keep []api.Step, lasts int) (int, api.Errno) {
	n := 0
	for _, name := range slices.Sorted(maps.Keys(d)) {
		if !strings.HasPrefix(name, "n/") || slices.ContainsFunc(keep, func(s api.Step) bool { return s.From == name }) {
			continue
		}
		if n == lasts {
			return n, api.ErrStoDead
		}
		n++
		delete(d, name)
	}
	return n, api.OK
}

// stage is what Stage should do and answer, likewise, on a store with so much room.
func (d disk) stage(seq int, contents [][]byte, room, lasts int) api.Errno {
	if seq < 0 || seq >= 1<<48 {
		return api.ErrArg
	}
	for k, data := range contents {
		name := fmt.Sprintf("n/%d.%d", seq, k)
		used := 0
		for _, other := range d {
			used += len(other)
		}
		if then := used - len(d[name]) + len(data); then > room && then > used {
			return api.ErrStoFull
		}
		if k == lasts {
			return api.ErrStoDead
		}
		d[name] = string(data)
	}
	return api.OK
}

// read is what Read should answer.
func (d disk) read(f api.File) ([]byte, bool, api.Errno) {
	if !isPath(f.Path) {
		return nil, false, api.ErrTreePath
	}
	if data, there := d["t/"+f.Path]; there && file(f.Path, data) == f {
		return []byte(data), true, api.OK
	}
	return nil, false, api.OK
}
