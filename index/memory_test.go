package index_test

import (
	"bytes"
	"reflect"
	"slices"
	"testing"

	"larder/api"
	"larder/control"
	"larder/index"
	"larder/samples"
)

// fulls tells packages in order, with lists of every kind.
func fulls() []api.Package {
	return []api.Package{samples.Full("aa", "1"), samples.Full("aa", "1.0"), samples.Full("gg", "1"), pkg("hh", "1")}
}

// spoilings tells ways to write over all that one list of a package has room for; the list itself is then put right again, so that only what shares its memory is wrong.
func spoilings(right api.Package) []func(p *api.Package) {
	bad := api.Atom{Name: "spoiled"}
	list := []func(p *api.Package){
		func(p *api.Package) { samples.Fill(p.Depends, api.Clause{bad}); p.Depends = right.Depends },
		func(p *api.Package) { samples.Fill(p.PreDepends, api.Clause{bad}); p.PreDepends = right.PreDepends },
		func(p *api.Package) { samples.Fill(p.Conflicts, bad); p.Conflicts = right.Conflicts },
		func(p *api.Package) { samples.Fill(p.Provides, "spoiled"); p.Provides = right.Provides },
		func(p *api.Package) { samples.Fill(p.Files, api.File{Path: "spoiled"}); p.Files = right.Files },
	}
	for i, c := range right.Depends {
		list = append(list, func(p *api.Package) { samples.Fill(p.Depends[i], bad); p.Depends[i] = c })
	}
	for i, c := range right.PreDepends {
		list = append(list, func(p *api.Package) { samples.Fill(p.PreDepends[i], bad); p.PreDepends[i] = c })
	}
	return list
}

// holdApart holds that no two lists of an answer share memory.
func holdApart(t *testing.T, what string, answer func() []api.Package) {
	t.Helper()
	want := answer()
	got := answer()
	samples.Fill(got, pkg("spoiled", "1"))
	if !same(answer(), want) {
		t.Errorf("P5.8: two answers of %s share memory", what)
	}
	for i, right := range want {
		for k, spoilOne := range spoilings(right) {
			got := answer()
			spoilOne(&got[i])
			if !same(got, want) {
				t.Errorf("P5.8: the list %d of the package %d of %s shares memory with another", k, i, what)
			}
		}
	}
}

// holdLists holds that a call leaves the packages that it is given as they are, keeps nothing of them, and answers new memory.
func holdLists(t *testing.T, what string, want []api.Package, call func(ps []api.Package) []api.Package) {
	t.Helper()
	ps := samples.RoomyPackages(fulls())
	slices.Reverse(ps)
	before := samples.ExtentOfPackages(ps)
	got, again := call(ps), call(ps)
	if !reflect.DeepEqual(samples.ExtentOfPackages(ps), before) {
		t.Errorf("P5.8: %s writes into what it is given", what)
	}
	samples.SpoilPackages(again)
	if !reflect.DeepEqual(samples.ExtentOfPackages(ps), before) {
		t.Errorf("P5.8: what is written into the answer of %s is seen in what it was given", what)
	}
	samples.SpoilPackages(ps)
	if !same(got, want) {
		t.Errorf("P5.8: %s keeps what it is given, or answers it twice: %s", what, tell(got))
	}
	holdApart(t, what, func() []api.Package { return call(samples.RoomyPackages(fulls())) })
}

// P5.8: Sorted and Universe.
func TestListMemory(t *testing.T) {
	holdLists(t, "Sorted", fulls(), func(ps []api.Package) []api.Package {
		list, _ := index.Sorted(ps)
		return list
	})
	holdLists(t, "Universe of an index", fulls(), func(ps []api.Package) []api.Package {
		list, _ := index.Universe(ps, nil)
		return list
	})
	holdLists(t, "Universe of both", fulls(), func(ps []api.Package) []api.Package {
		list, _ := index.Universe(ps, installed(ps[:2]))
		return list
	})
}

// P5.8: what is held is left as it is, and not kept.
func TestHeldMemory(t *testing.T) {
	ps := samples.RoomyPackages(fulls())
	held := samples.Roomy(installed(ps), api.Held{Package: pkg("beyond", "1"), Mark: 7})
	before, kept := samples.ExtentOfPackages(ps), slices.Clone(held[:cap(held)])
	got, e := index.Universe(nil, held)
	again, _ := index.Universe(nil, held)
	if e != api.OK || !reflect.DeepEqual(samples.ExtentOfPackages(ps), before) || !reflect.DeepEqual(held[:cap(held)], kept) {
		t.Errorf("P5.8: Universe writes into what is held: %d", e)
	}
	samples.SpoilPackages(again)
	if !reflect.DeepEqual(samples.ExtentOfPackages(ps), before) || !reflect.DeepEqual(held[:cap(held)], kept) {
		t.Error("P5.8: what is written into a universe is seen in what is held")
	}
	samples.SpoilPackages(ps)
	samples.Fill(held, api.Held{})
	if !same(got, fulls()) {
		t.Errorf("P5.8: Universe keeps what is held: %s", tell(got))
	}
}

// P5.8: texts that are handed in and answered.
func TestTextMemory(t *testing.T) {
	ps := samples.RoomyPackages(fulls())
	before := samples.ExtentOfPackages(ps)
	text, _ := index.Print(ps)
	other, _ := index.Print(ps)
	if !reflect.DeepEqual(samples.ExtentOfPackages(ps), before) {
		t.Error("P5.8: Print writes into what it is given")
	}
	want := bytes.Clone(text)
	samples.SpoilPackages(ps)
	samples.Fill(other, '!')
	if !bytes.Equal(text, want) {
		t.Error("P5.8: Print keeps what it is given, or answers it twice")
	}
	given := samples.Roomy(want, '!')
	got, _, e := index.Parse(given)
	again, _, _ := index.Parse(given)
	if e != api.OK || !bytes.Equal(given[:cap(given)], append(bytes.Clone(text), "!!"...)) {
		t.Errorf("P5.8: Parse writes into what it is given: %d", e)
	}
	samples.Fill(given, '!')
	samples.SpoilPackages(again)
	if !same(got, fulls()) {
		t.Errorf("P5.8: Parse keeps what it is given, or answers it twice: %s", tell(got))
	}
	holdApart(t, "Parse", func() []api.Package {
		list, _, _ := index.Parse(text)
		return list
	})
}

// P5.8: what Check and New are handed is left as it is.
func TestCheckMemory(t *testing.T) {
	ps := samples.RoomyPackages(fulls())
	before := samples.ExtentOfPackages(ps)
	index.Check(ps)
	index.New(ps)
	slices.Reverse(ps)
	reversed := samples.ExtentOfPackages(ps)
	index.Check(ps)
	index.New(ps)
	if !reflect.DeepEqual(samples.ExtentOfPackages(ps), reversed) {
		t.Error("P5.8: a call writes into what it refuses")
	}
	if slices.Reverse(ps); !reflect.DeepEqual(samples.ExtentOfPackages(ps), before) {
		t.Error("P5.8: a call writes into what it is given")
	}
}

// answers tells all that a table answers of packages.
func answers(table *index.Table) []any {
	all := []any{table.Len(), slices.Collect(table.Names())}
	for i := range table.Len() {
		p, _ := table.At(i)
		place, _ := table.Find(control.Key(p))
		all = append(all, p, place, table.Users(i))
	}
	for _, name := range []string{"aa", "bb", "cc", "dd", "ee", "gg", "hh", "spoiled", "beyond"} {
		all = append(all, table.Versions(name), table.Providers(name), table.Satisfiers(api.Atom{Name: name}), table.Satisfiers(api.Atom{Name: name, Op: api.OpAtLeast, Version: "1"}))
	}
	return all
}

// P5.8: a table is its own, whatever is written into what it was made of, or into what it answers.
func TestTableMemory(t *testing.T) {
	ps := samples.RoomyPackages(fulls())
	table := tableOf(t, ps)
	names := table.Names()
	want := answers(tableOf(t, samples.RoomyPackages(fulls())))
	samples.SpoilPackages(ps)
	if !reflect.DeepEqual(answers(table), want) {
		t.Error("P5.8: New keeps what it is given")
	}
	for i := range table.Len() {
		p, _ := table.At(i)
		samples.Spoil(p)
		samples.Fill(table.Users(i), -1)
	}
	for _, name := range []string{"aa", "gg", "hh"} {
		samples.Fill(table.Versions(name), -1)
		samples.Fill(table.Providers(name), -1)
		samples.Fill(table.Satisfiers(api.Atom{Name: name}), -1)
	}
	if !reflect.DeepEqual(answers(table), want) {
		t.Error("P5.8: what is written into an answer is seen in the table")
	}
	if got := slices.Collect(names); !slices.Equal(got, []string{"aa", "gg", "hh"}) {
		t.Errorf("P5.8: Names from before = %q", got)
	}
	holdApart(t, "At", func() []api.Package {
		var list []api.Package
		for i := range table.Len() {
			p, _ := table.At(i)
			list = append(list, p)
		}
		return list
	})
}

// P5.8: a table's answers to one question, and to others, share no memory.
func TestPlacesMemory(t *testing.T) {
	table := tableOf(t, fulls())
	ask := func() [][]int {
		var all [][]int
		for i := range table.Len() {
			all = append(all, table.Users(i))
		}
		for _, name := range []string{"aa", "gg", "hh", "none"} {
			all = append(all, table.Versions(name), table.Providers(name), table.Satisfiers(api.Atom{Name: name}))
		}
		return all
	}
	want := ask()
	for i := range want {
		got, again := ask(), ask()
		samples.Fill(got[i], -1)
		got[i] = want[i]
		if !reflect.DeepEqual(got, want) || !reflect.DeepEqual(again, want) || !reflect.DeepEqual(ask(), want) {
			t.Errorf("P5.8: the answer %d shares memory with another", i)
		}
	}
}
