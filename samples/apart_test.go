package samples_test

import (
	"testing"

	"larder/api"
	"larder/samples"
)

func TestApart(t *testing.T) {
	list := make([]int, 2, 5)
	for _, c := range []struct {
		what  string
		lists [][]int
		want  bool
	}{
		{"none", nil, true},
		{"one", [][]int{list}, true},
		{"two", [][]int{list, {1, 2}}, true},
		{"one twice", [][]int{list, {1}, list}, false},
		{"one and its end", [][]int{list[1:], list}, false},
		{"one and its room", [][]int{list, list[4:5]}, false},
		{"one without its room, and that", [][]int{list[:2:2], list[2:]}, true},
		{"some without room", [][]int{list[:0:0], list[:0:0], nil}, true},
	} {
		if got := samples.Apart(c.lists...); got != c.want {
			t.Errorf("Apart of %s = %v", c.what, got)
		}
	}
}

func TestPackagesApart(t *testing.T) {
	if !samples.PackagesApart(samples.Full("aa", "1"), samples.Full("aa", "1")) || !samples.PackagesApart() {
		t.Error("PackagesApart of packages that are apart = false")
	}
	for i, change := range []func(p *api.Package, q api.Package){
		func(p *api.Package, q api.Package) { p.Depends = q.Depends },
		func(p *api.Package, q api.Package) { p.Depends = q.PreDepends[:1] },
		func(p *api.Package, q api.Package) { p.PreDepends[0] = q.Depends[1] },
		func(p *api.Package, q api.Package) { p.Depends[1] = q.Conflicts[1:] },
		func(p *api.Package, q api.Package) { p.Conflicts = q.Conflicts },
		func(p *api.Package, q api.Package) { p.Provides = q.Provides[:1] },
		func(p *api.Package, q api.Package) { p.Files = q.Files },
	} {
		p, q := samples.Full("aa", "1"), samples.Full("bb", "1")
		if change(&p, q); samples.PackagesApart(p, q) {
			t.Errorf("PackagesApart behind the change %d = true", i)
		}
	}
}

func TestEntriesApart(t *testing.T) {
	keys := samples.Keys("aa=1 bb=1 cc=1 dd=1")
	list := []api.Entry{{Out: keys[:1:1], In: keys[1:2:2]}, {In: keys[2:3:3]}}
	if !samples.EntriesApart(list, []api.Entry{{Out: keys[3:]}}) || !samples.EntriesApart() {
		t.Error("EntriesApart of entries that are apart = false")
	}
	for i, lists := range [][][]api.Entry{{list, list[1:]}, {list, {{In: keys[3:]}, {Out: keys[2:]}}}, {{{Out: keys, In: keys}}}, {{{Out: keys}, {Out: keys}}}} {
		if samples.EntriesApart(lists...) {
			t.Errorf("EntriesApart of the lists %d = true", i)
		}
	}
}
