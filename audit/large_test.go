package audit_test

import (
	"bytes"
	"crypto/sha256"
	"fmt"
	"slices"
	"strings"
	"testing"

	"larder/api"
	"larder/archive"
	"larder/audit"
	"larder/exec"
	"larder/samples"
	"larder/store"
)

// packed makes a package of files, and its archive.
func packed(name string, files []api.Blob) (api.Held, api.Blob) {
	p := api.Package{Name: name, Version: "1", Files: samples.Must(archive.Manifest(files))}
	data := samples.Must(archive.Build(p, files))
	p.Archive, p.Size, p.Sum = name+".deb", len(data), sha256.Sum256(data)
	return api.Held{Package: p}, api.Blob{Name: p.Archive, Data: data}
}

// all tells an entry for each file of packages, in the order in which Check tells them.
func all(held []api.Held, kind int) []api.Wrong {
	var list []api.Wrong
	for _, h := range held {
		for _, f := range h.Files {
			list = append(list, api.Wrong{Kind: kind, Path: f.Path, Who: api.Key{Name: h.Name, Version: h.Version}})
		}
	}
	return list
}

// P21.1, P21.2, P21.4: a package with as many files as it may have, and a file as long as it may be.
func TestMostFiles(t *testing.T) {
	t.Parallel()
	var files []api.Blob
	for i := range api.MaxFiles {
		files = append(files, api.Blob{Name: fmt.Sprintf("f%04d", i), Data: []byte(strings.Repeat("x", i%3))})
	}
	long := []api.Blob{{Name: "long", Data: bytes.Repeat([]byte("l"), api.MaxFile)}}
	many, manyArchive := packed("many", files)
	one, oneArchive := packed("one", long)
	s := samples.Must(store.New(api.MaxCapacity))
	x := samples.Must(exec.Open(s))
	samples.Must(0, x.Run(api.Work{In: []api.Held{many, one}, Files: slices.Concat(files, long)}))
	held := x.State().Held
	if got := holdCheck(t, "many files", s, held); len(got) > 0 {
		t.Fatalf("P21.1: Check = %d entries", len(got))
	}
	for name := range s.Names("t/") {
		s.Append(name, []byte("!"))
	}
	s.Sync()
	wrong := holdCheck(t, "longer files", s, held)
	if want := all(held, api.WrongSize); !slices.Equal(wrong, want) {
		t.Fatalf("P21.1: Check = %d entries, want %d", len(wrong), len(want))
	}
	slices.Reverse(wrong)
	w, left, e := audit.Plan(held, wrong, []api.Blob{oneArchive, manyArchive})
	if e != api.OK || !sameWork(w, api.Work{Mend: slices.Concat(files, long)}) || len(left) > 0 {
		t.Fatalf("P21.2: Plan mends %d files, leaves %d, %d", len(w.Mend), len(left), e)
	}
	if e := x.Run(w); e != api.OK {
		t.Fatalf("P21.4: Run = %d", e)
	}
	if got := holdCheck(t, "many files", s, held); len(got) > 0 {
		t.Errorf("P21.4: behind it Check = %d entries", len(got))
	}
}

// P21.2: an archive that is wrong, and as long as it may be, whatever is wrong with its package's files.
func TestLongWrongArchive(t *testing.T) {
	t.Parallel()
	h := api.Held{Package: api.Package{Name: "aa", Version: "1", Archive: "aa.deb", Size: api.MaxInput}}
	for i := range api.MaxFiles {
		h.Files = append(h.Files, samples.File(fmt.Sprintf("f%04d", i), ""))
	}
	held := []api.Held{h}
	wrong := slices.Repeat(all(held, api.WrongMissing), 9)
	w, left, e := audit.Plan(held, wrong, []api.Blob{{Name: "aa.deb", Data: make([]byte, api.MaxInput)}})
	if e != api.OK || !sameWork(w, api.Work{}) || !slices.Equal(left, wrong) {
		t.Errorf("P21.2: Plan mends %d files, leaves %d, %d", len(w.Mend), len(left), e)
	}
}

// P21.1 to P21.4: many packages with files, of which many are wrong.
func TestManyPackages(t *testing.T) {
	t.Parallel()
	const many = 5000
	var held []api.Held
	var archives []api.Blob
	var files []api.Blob
	for i := range many {
		name := fmt.Sprintf("p%05d", i)
		own := []api.Blob{{Name: fmt.Sprintf("%d/a", many-i), Data: []byte(name)}, {Name: fmt.Sprintf("%d/b", many-i)}}
		h, a := packed(name, own)
		held, archives, files = append(held, h), append(archives, a), append(files, own...)
	}
	s := samples.Must(store.New(api.MaxCapacity))
	x := samples.Must(exec.Open(s))
	samples.Must(0, x.Run(api.Work{In: held, Files: files}))
	for i, f := range files {
		switch i % 4 {
		case 0:
			s.Remove("t/" + f.Name)
		case 2:
			s.Write("t/"+f.Name, []byte("P00000"))
		case 3:
			s.Write("t/"+f.Name+"/stray", nil)
		}
	}
	s.Sync()
	wrong := samples.Must(audit.Check(s, held))
	if counts := audit.Summary(wrong); counts != [7]int{0, many / 2, 0, many / 2, many / 2} || !slices.Equal(wrong[:many], wrongOf(held)) {
		t.Fatalf("P21.1: Check tells %v", counts)
	}
	slices.Reverse(wrong)
	slices.Reverse(archives)
	w, left, e := audit.Plan(held, wrong, archives)
	if e != api.OK || len(w.Mend) != many || !slices.IsSortedFunc(w.Mend, func(a, b api.Blob) int { return strings.Compare(a.Name, b.Name) }) || !slices.Equal(left, wrong[:many/2]) {
		t.Fatalf("P21.2: Plan mends %d files, leaves %d, %d", len(w.Mend), len(left), e)
	}
	if e := x.Run(w); e != api.OK {
		t.Fatalf("P21.4: Run = %d", e)
	}
	slices.Reverse(left)
	if got := samples.Must(audit.Check(s, held)); !slices.Equal(got, left) {
		t.Errorf("P21.4: behind it Check tells %v", audit.Summary(got))
	}
	if k, ok := audit.Owner(held, "1/b"); k != (api.Key{Name: fmt.Sprintf("p%05d", many-1), Version: "1"}) || !ok {
		t.Errorf("P21.3: Owner = %v, %v", k, ok)
	}
}

// wrongOf tells what is wrong in TestManyPackages: of each package its first file, in turn missing and another one.
func wrongOf(held []api.Held) []api.Wrong {
	var list []api.Wrong
	for i, h := range held {
		list = append(list, api.Wrong{Kind: []int{api.WrongMissing, api.WrongSum}[i%2], Path: h.Files[0].Path, Who: api.Key{Name: h.Name, Version: h.Version}})
	}
	return list
}

// P21.1: as many packages as a universe may have, on a store with very many files.
func TestManyNames(t *testing.T) {
	t.Parallel()
	held := make([]api.Held, api.MaxUniverse)
	image := make([]api.Blob, 3*api.MaxUniverse)
	var want []api.Wrong
	for i := range held {
		path := fmt.Sprintf("%06d", i)
		held[i] = samples.Held("p" + path + " 1 " + path + ":")
		image[i].Name = "d/" + path
		image[api.MaxUniverse+i].Name = "n/" + path
		image[2*api.MaxUniverse+i].Name = "t/" + path
		if i%2 == 1 {
			image[2*api.MaxUniverse+i].Name += "/"
			want = append(want, api.Wrong{Kind: api.WrongMissing, Path: path, Who: api.Key{Name: held[i].Name, Version: "1"}})
		}
	}
	for i, b := range image[2*api.MaxUniverse:] {
		if i%2 == 1 {
			want = append(want, api.Wrong{Kind: api.WrongStray, Path: b.Name[2:]})
		}
	}
	for _, b := range image[api.MaxUniverse : 2*api.MaxUniverse] {
		want = append(want, api.Wrong{Kind: api.WrongStaged, Path: b.Name})
	}
	for _, b := range image[:api.MaxUniverse] {
		want = append(want, api.Wrong{Kind: api.WrongOther, Path: b.Name})
	}
	s := samples.Must(store.Load(image, 0))
	got, e := audit.Check(s, held)
	if e != api.OK || !slices.Equal(got, want) {
		t.Errorf("P21.1: Check tells %v, %d", audit.Summary(got), e)
	}
	w, left, e := audit.Plan(held, got, nil)
	if e != api.OK || !sameWork(w, api.Work{}) || !slices.Equal(left, want) {
		t.Errorf("P21.2: Plan leaves %d, %d", len(left), e)
	}
}
