package front_test

import (
	"fmt"
	"strings"
	"testing"

	"larder/api"
	"larder/archive"
	"larder/control"
	"larder/front"
	"larder/journal"
	"larder/samples"
	"larder/sha"
	"larder/status"
	"larder/store"
)

// many tells the packages of so many names, without anything.
func many(prefix string, n int) []api.Held {
	list := make([]api.Held, n)
	for i := range list {
		list[i].Package = api.Package{Name: fmt.Sprintf("%s%06d", prefix, i), Version: "1"}
	}
	return list
}

// MaxUniverse: as many packages as that are taken, one more is refused.
func TestManyPackages(t *testing.T) {
	t.Parallel()
	var text strings.Builder
	for _, h := range many("new", api.MaxPackages) {
		text.WriteString("Package: " + h.Name + "\nVersion: 1\n\n")
	}
	for _, c := range []struct {
		held int
		want api.Outcome
	}{
		{api.MaxUniverse - api.MaxPackages, api.Outcome{Answer: api.AnswerBudget, Why: api.ErrResBudget}},
		{api.MaxUniverse - api.MaxPackages + 1, api.Outcome{Answer: api.AnswerRefused, Why: api.ErrIdxMany}},
	} {
		body := samples.Must(status.Encode(api.State{Seq: 1, Group: 1, Held: many("old", c.held)}))
		d := samples.Must(store.Load([]api.Blob{{Name: "d/status", Data: samples.Must(journal.Encode(body))}}, api.MaxCapacity))
		f := samples.Must(front.Open(d))
		if batches, o := f.Plan([]byte(text.String()), asks("install new000000; budget 0")); o != c.want || batches != nil {
			t.Errorf("P23.2: %d are held: Plan = %v, %+v", c.held, len(batches), o)
		}
		if o := f.Apply([]byte(text.String()), asks("install new000000; budget 0"), nil); o != c.want || d.Calls() > 0 {
			t.Errorf("P23.2: %d are held: Apply = %+v, %d calls", c.held, o, d.Calls())
		}
		if _, _, e := f.Blame([]byte(text.String()), asks("install new000000; budget 0")); e != api.OK && e != c.want.Why {
			t.Errorf("P23.11: %d are held: Blame = %d", c.held, e)
		}
	}
	if o := samples.Must(front.Open(samples.Must(store.New(0)))).Apply([]byte(text.String()+"Package: a\nVersion: 1\n"), asks(""), nil); o.Answer != api.AnswerMalformed || o.Why != api.ErrIdxMany || o.Line == 0 {
		t.Errorf("P23.2: one too many: %+v", o)
	}
}

// MaxFiles and MaxFile: they go in, are mended, and go out.
func TestGreatPackages(t *testing.T) {
	t.Parallel()
	made := func(name string, files []api.Blob) (api.Package, api.Blob) {
		p := api.Package{Name: name, Version: "1", Files: samples.Must(archive.Manifest(files))}
		data := samples.Must(archive.Build(p, files))
		p.Archive, p.Size, p.Sum = name+".deb", len(data), sha.Sum(data)
		return p, api.Blob{Name: p.Archive, Data: data}
	}
	var files []api.Blob
	for i := range api.MaxFiles {
		files = append(files, api.Blob{Name: fmt.Sprintf("m/%04d", i), Data: []byte{byte(i)}})
	}
	_, many := made("many", files)
	long, longest := made("long", []api.Blob{{Name: strings.Repeat("l", 155) + "/" + strings.Repeat("o", 100), Data: make([]byte, api.MaxFile)}})
	index := indexOf(t, many, longest)
	d := samples.Must(store.New(api.MaxCapacity))
	f := samples.Must(front.Open(d))
	p := pair{f: f, d: d}
	expect(t, "Apply", f, f.Apply(index, asks("install many; install long"), []api.Blob{many, longest}), ok(2), "long=1/0 many=1/0")
	p.whole(t, "Apply")
	if len(f.Paths()) != api.MaxFiles+1 {
		t.Errorf("P23.11: %d paths", len(f.Paths()))
	}
	if data, e := f.Read(long.Files[0].Path); len(data) != api.MaxFile || e != api.OK {
		t.Errorf("P23.11: Read = %d bytes, %d", len(data), e)
	}
	for i := range api.MaxFiles {
		samples.Must(0, d.Remove(fmt.Sprintf("t/m/%04d", i)))
	}
	if left, e := f.Repair([]api.Blob{many}); len(left) > 0 || e != api.OK {
		t.Errorf("P23.10: Repair = %v, %d", left, e)
	}
	p.whole(t, "Repair")
	expect(t, "Undo", f, f.Undo(nil), ok(2), "")
	p.whole(t, "Undo")
}

// indexOf tells the index of archives, as their control members have it.
func indexOf(t *testing.T, archives ...api.Blob) []byte {
	t.Helper()
	var text []byte
	for _, a := range archives {
		p, _, e := archive.Read(a.Data)
		if e != api.OK {
			t.Fatalf("Read = %d", e)
		}
		p.Archive, p.Size, p.Sum = a.Name, len(a.Data), sha.Sum(a.Data)
		text = append(append(text, samples.Must(control.Print(p))...), '\n')
	}
	return text
}
