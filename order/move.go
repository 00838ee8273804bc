package order

import (
	"cmp"
	"iter"
	"slices"

	"larder/api"
	"larder/valid"
)

// unit is what goes and what comes of a name; a zero key, where nothing does.
type unit struct{ out, in api.Key }

func (u unit) name() string { return cmp.Or(u.out.Name, u.in.Name) }

func (u unit) goes() bool { return u.out != api.Key{} }

func (u unit) comes() bool { return u.in != api.Key{} }

// namesOf tells the names of units.
func namesOf(units []unit) []string {
	names := make([]string, len(units))
	for i, u := range units {
		names[i] = u.name()
	}
	return names
}

// batchOf tells the batch in which units go and come.
func batchOf(units []unit) api.Batch {
	var b api.Batch
	for _, u := range units {
		if u.goes() {
			b.Out = append(b.Out, u.out)
		}
		if u.comes() {
			b.In = append(b.In, u.in)
		}
	}
	return b
}

// move is a state and a target, with what stays and what changes.
type move struct {
	from, to, both side
	units          []unit       // what changes, by rising names
	left           map[unit]int // what is still to be done: its place in units
}

// open makes the move from a state to a target, or tells what is wrong with these.
func open(s, t []api.Package) (move, api.Errno) {
	if e := check(s, t); e != api.OK {
		return move{}, e
	}
	return moveOf(sideOf(s), sideOf(t)), api.OK
}

func moveOf(from, to side) move {
	m := move{from: from, to: to, left: make(map[unit]int)}
	names := append(from.names(), to.names()...)
	slices.Sort(names)
	var both []api.Package
	for _, name := range slices.Compact(names) {
		u := m.unitOf(name)
		if u.out == u.in {
			both = append(both, from.of(name))
			continue
		}
		m.left[u] = len(m.units)
		m.units = append(m.units, u)
	}
	m.both = sideOf(both)
	return m
}

// unitOf tells what the state and the target have of a name.
func (m move) unitOf(name string) unit { return unit{m.from.key(name), m.to.key(name)} }

// unitsOf tells the units of names; false, if these do not rise or do not change.
func (m move) unitsOf(names []string) ([]unit, bool) {
	var units []unit
	for i, name := range names {
		u := m.unitOf(name)
		if !m.isLeft(u) || i > 0 && names[i-1] >= name {
			return nil, false
		}
		units = append(units, u)
	}
	return units, true
}

func (m move) isLeft(u unit) bool {
	_, is := m.left[u]
	return is
}

// admissible tells the first of some lists of units, with its number, that may go and come: all Pre-Depends of what comes are met by what is there and does not go.
func (m move) admissible(lists iter.Seq2[int, []unit]) (int, []unit, bool) {
search:
	for number, units := range lists {
		leaving := setOf(units)
		for _, u := range units {
			for _, c := range m.to.of(u.in.Name).PreDepends {
				if !m.isMet(c, leaving) {
					continue search
				}
			}
		}
		return number, units, true
	}
	return 0, nil, false
}

// isMet tells whether a clause is met by what is there behind all that has been done, and does not leave.
func (m move) isMet(c api.Clause, leaving map[unit]struct{}) bool {
	for _, a := range c {
		for name := range m.from.satisfiers(a) {
			u := m.unitOf(name)
			if _, leaves := leaving[u]; m.isLeft(u) && !leaves {
				return true
			}
		}
		// What stays is there, and what has come.
		for name := range m.to.satisfiers(a) {
			if !m.isLeft(m.unitOf(name)) {
				return true
			}
		}
	}
	return false
}

// kept tells the greatest closed part of what stays.
func (m move) kept() []api.Package {
	var list []api.Package
	for _, p := range valid.Closed(m.both.list) {
		list = append(list, m.both.list[p])
	}
	return list
}

// displace tells the batch with which everything goes that is not kept, if something goes at all.
func (m move) displace() (api.Batch, api.Errno) {
	if !slices.ContainsFunc(m.units, unit.goes) {
		return api.Batch{}, api.ErrOrdCycle
	}
	return api.Batch{Out: keysOf(m.from.without(keysOf(m.kept())))}, api.OK
}

// behind tells the state behind batches of the move.
func (m move) behind(batches []api.Batch) []api.Package {
	var all api.Batch
	for _, b := range batches {
		all.Out = append(all.Out, b.Out...)
		all.In = append(all.In, b.In...)
	}
	slices.SortFunc(all.In, func(a, b api.Key) int { return cmp.Compare(a.Name, b.Name) })
	return joined(m.from.without(all.Out), m.to.only(all.In))
}
