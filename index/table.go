package index

import (
	"iter"
	"slices"

	"larder/api"
	"larder/copies"
	"larder/debver"
	"larder/relation"
)

// Table finds packages. All its lists of places rise.
type Table struct {
	packages []api.Package
	places   map[api.Key]int
	named    map[string][]int // the packages of a name
	provided map[string][]int // those that have a name among their Provides
	wanted   map[string][]int // those that have a name in Depends or Pre-Depends
}

// New makes a table of packages in order.
func New(u []api.Package) (*Table, api.Errno) {
	if _, e := Check(u); e != api.OK {
		return nil, e
	}
	t := &Table{
		packages: copies.Packages(u),
		places:   placesOf(u),
		named:    make(map[string][]int),
		provided: make(map[string][]int),
		wanted:   make(map[string][]int),
	}
	for i, p := range t.packages {
		addPlace(t.named, p.Name, i)
		for _, name := range p.Provides {
			addPlace(t.provided, name, i)
		}
		for _, c := range needs(p) {
			for _, a := range c {
				addPlace(t.wanted, a.Name, i)
			}
		}
	}
	return t, api.OK
}

// addPlace adds a place behind those of a name; but once, since a package may tell one name several times.
func addPlace(lists map[string][]int, name string, place int) {
	list := lists[name]
	if len(list) == 0 || list[len(list)-1] != place {
		lists[name] = append(list, place)
	}
}

// needs tells the clauses of Depends and Pre-Depends.
func needs(p api.Package) []api.Clause { return slices.Concat(p.Depends, p.PreDepends) }

// orNothing tells the table, or one of nothing, where there is none.
func (t *Table) orNothing() *Table {
	if t == nil {
		return &Table{}
	}
	return t
}

// Len tells how many packages there are.
func (t *Table) Len() int { return len(t.orNothing().packages) }

// At tells the package at a place.
func (t *Table) At(i int) (api.Package, bool) {
	if i < 0 || i >= t.Len() {
		return api.Package{}, false
	}
	return copies.Package(t.packages[i]), true
}

// Find tells a package's place.
func (t *Table) Find(k api.Key) (int, bool) {
	i, ok := t.orNothing().places[k]
	return i, ok
}

// Names gives each name once, rising.
func (t *Table) Names() iter.Seq[string] {
	packages := t.orNothing().packages
	return func(yield func(string) bool) {
		for i, p := range packages {
			if i > 0 && packages[i-1].Name == p.Name {
				continue
			}
			if !yield(p.Name) {
				return
			}
		}
	}
}

// Versions tells the places of a name's packages, by rising versions.
func (t *Table) Versions(name string) []int {
	t = t.orNothing()
	places := t.named[name]
	versions := make([]string, len(places))
	for k, i := range places {
		versions[k] = t.packages[i].Version
	}
	// No error: these versions have been checked. Equal ones stay as they stand here, by rising strings.
	order, _ := debver.Sort(versions)
	for k, nth := range order {
		order[k] = places[nth]
	}
	return order
}

// Providers tells the places of the packages that provide a name.
func (t *Table) Providers(name string) []int { return slices.Clone(t.orNothing().provided[name]) }

// Satisfiers tells the places of the packages that meet an atom.
func (t *Table) Satisfiers(a api.Atom) []int {
	t = t.orNothing()
	return t.choose(slices.Concat(t.named[a.Name], t.provided[a.Name]), func(p api.Package) bool { return relation.Meets(a, p) })
}

// Users tells the places of the packages that a package may serve.
func (t *Table) Users(i int) []int {
	if i < 0 || i >= t.Len() {
		return nil
	}
	served := t.packages[i]
	names := append([]string{served.Name}, served.Provides...)
	slices.Sort(names)
	var places []int
	for _, name := range slices.Compact(names) {
		places = append(places, t.wanted[name]...)
	}
	return t.choose(places, func(p api.Package) bool { return uses(p, served) })
}

// uses tells whether one package may be served by another.
func uses(p, served api.Package) bool {
	return slices.ContainsFunc(needs(p), func(c api.Clause) bool {
		_, ok := relation.First(c, served)
		return ok
	})
}

// choose tells those of some places, rising and each once, whose packages are right. The list is used up.
func (t *Table) choose(places []int, right func(api.Package) bool) []int {
	slices.Sort(places)
	return slices.DeleteFunc(slices.Compact(places), func(i int) bool { return !right(t.packages[i]) })
}
