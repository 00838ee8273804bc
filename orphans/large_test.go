package orphans_test

import (
	"fmt"
	"slices"
	"testing"

	"larder/api"
	"larder/orphans"
)

const many = api.MaxUniverse

// named tells the name of the package at a place of a large universe.
func named(place int) string { return fmt.Sprintf("p%06d", place) }

// made makes a large universe, in which each package has what a function adds to it.
func made(n int, add func(place int, p *api.Package)) []api.Package {
	u := make([]api.Package, n)
	for i := range u {
		u[i] = api.Package{Name: named(i), Version: "1"}
		add(i, &u[i])
	}
	return u
}

func onThat(name string) api.Clause { return api.Clause{{Name: name}} }

// turnsOfOne tells turns of which each has one of some places.
func turnsOfOne(places []int) [][]int {
	turns := make([][]int, len(places))
	for i, p := range places {
		turns[i] = []int{p}
	}
	return turns
}

func reversed(list []int) []int {
	list = slices.Clone(list)
	slices.Reverse(list)
	return list
}

// P19.2 to P19.5: as many packages as a universe has, each of which depends on the next one.
func TestLongRow(t *testing.T) {
	t.Parallel()
	u := made(many, func(place int, p *api.Package) {
		if place+1 < many {
			p.Depends = []api.Clause{onThat(named(place + 1))}
		}
	})
	set := all(many)
	if got, e := orphans.Distances(u, set, set[:1]); !slices.Equal(got, set) || e != api.OK {
		t.Errorf("P19.3: %d distances, %d", len(got), e)
	}
	if got, e := orphans.Chain(u, set, set[:1], many-1); !slices.Equal(got, set) || e != api.OK {
		t.Errorf("P19.4: a chain of %d, %d", len(got), e)
	}
	half := set[many/2:]
	if got, e := orphans.Needed(u, set, half[:1]); !slices.Equal(got, half) || e != api.OK {
		t.Errorf("P19.2: %d needed, %d", len(got), e)
	}
	if got, e := orphans.Orphans(u, set, half[:1]); !slices.Equal(got, set[:many/2]) || e != api.OK {
		t.Errorf("P19.2: %d orphans, %d", len(got), e)
	}
	if got, e := orphans.Sweep(u, set, half[:1]); !sameRows(got, turnsOfOne(set[:many/2])) || e != api.OK {
		t.Errorf("P19.5: %d turns, %d", len(got), e)
	}
}

// P19.5: as many as a universe has, each of which the next one wants; the first one is wanted by all others, by as many atoms.
func TestLongTail(t *testing.T) {
	t.Parallel()
	u := made(many, func(place int, p *api.Package) {
		if place > 0 {
			own := api.Atom{Name: named(0), Op: api.OpAtMost, Version: fmt.Sprint(place)}
			p.PreDepends = []api.Clause{onThat(named(place - 1)), {own}}
		}
	})
	set := all(many)
	if got, e := orphans.Sweep(u, set, nil); !sameRows(got, turnsOfOne(reversed(set))) || e != api.OK {
		t.Errorf("P19.5: %d turns, %d", len(got), e)
	}
}

// P19.2 to P19.5: as many as a universe has, all of which provide and need one name.
func TestManyAlike(t *testing.T) {
	t.Parallel()
	u := made(many, func(place int, p *api.Package) {
		p.Provides = []string{"xx"}
		p.Depends = []api.Clause{onThat("xx")}
	})
	set := all(many)
	ones := slices.Repeat([]int{1}, many)
	ones[7] = 0
	if got, e := orphans.Distances(u, set, set[7:8]); !slices.Equal(got, ones) || e != api.OK {
		t.Errorf("P19.3: %d distances, %d", len(got), e)
	}
	if got, e := orphans.Chain(u, set, set[7:9], many-1); !slices.Equal(got, []int{7, many - 1}) || e != api.OK {
		t.Errorf("P19.4: %v, %d", got, e)
	}
	if got, e := orphans.Sweep(u, set, nil); !sameRows(got, [][]int{set}) || e != api.OK {
		t.Errorf("P19.5: %d turns, %d", len(got), e)
	}
	if got, e := orphans.Orphans(u, set, set); len(got) > 0 || e != api.OK {
		t.Errorf("P19.8: %d orphans, %d", len(got), e)
	}
}

// P19.2, P19.5: half of a universe wants a name, and the other half provides it.
func TestManyUsers(t *testing.T) {
	t.Parallel()
	const half = many / 2
	u := made(2*half, func(place int, p *api.Package) {
		if place%2 == 0 {
			p.Provides = []string{"xx"}
		} else {
			p.Depends = []api.Clause{onThat("xx")}
		}
	})
	set := all(2 * half)
	even := choose(set, func(p int) bool { return p%2 == 0 })
	odd := choose(set, func(p int) bool { return p%2 == 1 })
	if got, e := orphans.Sweep(u, set, nil); !sameRows(got, [][]int{odd, even}) || e != api.OK {
		t.Errorf("P19.5: %d turns, %d", len(got), e)
	}
	if got, e := orphans.Orphans(u, set, odd[half-1:]); !slices.Equal(got, odd[:half-1]) || e != api.OK {
		t.Errorf("P19.2: %d orphans, %d", len(got), e)
	}
	if got, e := orphans.Needed(u, set, odd); !slices.Equal(got, set) || e != api.OK {
		t.Errorf("P19.2: %d needed, %d", len(got), e)
	}
}

// P19.4: a long chain whose packages all provide what as many behind it want.
func TestLongChainWithMany(t *testing.T) {
	t.Parallel()
	const half = many / 2
	u := made(2*half, func(place int, p *api.Package) {
		switch {
		case place < half:
			p.Provides = []string{"xx"}
			p.Depends = []api.Clause{onThat(named(place + 1))}
		case place == half:
			p.Depends = []api.Clause{onThat("yy")}
		default:
			p.Provides = []string{"yy"}
			p.Depends = []api.Clause{onThat("xx")}
		}
	})
	if got, e := orphans.Chain(u, all(2*half), []int{0}, 2*half-1); !slices.Equal(got, append(all(half+1), 2*half-1)) || e != api.OK {
		t.Errorf("P19.4: a chain of %d, %d", len(got), e)
	}
}

// P19.2 to P19.5: a package with as many clauses and alternatives as may be.
func TestManyAtoms(t *testing.T) {
	t.Parallel()
	u := made(many, func(int, *api.Package) {})
	for i := range api.MaxClauses {
		c := make(api.Clause, api.MaxChoices)
		for j := range c {
			c[j].Name = named(many - 1 - (i*api.MaxChoices+j)%(many/2))
		}
		u[0].Depends = append(u[0].Depends, c)
	}
	set := all(many)
	wanted := set[many-many/2:]
	if got, e := orphans.Needed(u, set, set[:1]); !slices.Equal(got, append([]int{0}, wanted...)) || e != api.OK {
		t.Errorf("P19.2: %d needed, %d", len(got), e)
	}
	if got, e := orphans.Sweep(u, set, nil); !sameRows(got, [][]int{set[:many-many/2], wanted}) || e != api.OK {
		t.Errorf("P19.5: %d turns, %d", len(got), e)
	}
}

// P19.2: one package more than a universe may have; as many versions of one name as it may have.
func TestTooMany(t *testing.T) {
	t.Parallel()
	u := made(many+1, func(int, *api.Package) {})
	if got, e := orphans.Needed(u, []int{0}, []int{0}); len(got) > 0 || e != api.ErrOrpSet {
		t.Errorf("P19.2: %v, %d", got, e)
	}
	if got, e := orphans.Needed(u[1:], []int{0, many - 1}, []int{many - 1}); !slices.Equal(got, []int{many - 1}) || e != api.OK {
		t.Errorf("P19.2: %v, %d", got, e)
	}
	for i := range u {
		u[i].Name, u[i].Version = "pp", fmt.Sprintf("1%06d", i)
	}
	if got, e := orphans.Orphans(u[1:], []int{many - 1}, nil); !slices.Equal(got, []int{many - 1}) || e != api.OK {
		t.Errorf("P19.2: %v, %d", got, e)
	}
	if got, e := orphans.Orphans(u[1:], []int{0, many - 1}, nil); len(got) > 0 || e != api.ErrOrpSet {
		t.Errorf("P19.2: %v, %d", got, e)
	}
}

// P19.1: as many installed packages and holds.
func TestManyRoots(t *testing.T) {
	t.Parallel()
	held := make([]api.Held, many)
	var holds, want []string
	for i := range held {
		place := many - 1 - i
		held[i].Name = named(place)
		held[i].Mark = place % 3
		held[i].Essential = place%3 == 1 && place%2 == 0
		if place%5 == 0 {
			holds = append(holds, named(place))
		}
	}
	for place := range many {
		if place%3 == 0 || place%6 == 4 || place%5 == 0 {
			want = append(want, named(place))
		}
	}
	if got := orphans.Roots(held, holds); !slices.Equal(got, want) {
		t.Errorf("P19.1: %d names, want %d", len(got), len(want))
	}
}
