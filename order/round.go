package order

import (
	"cmp"
	"iter"
	"maps"
	"slices"

	"larder/api"
	"larder/graph"
	"larder/relation"
)

// round is a move by one look at its order graph, so that not each batch of a plan costs one. As ends are done, the graph of what is left stays as it was, as long as nothing that comes meets a clause that draws an edge to a unit that is left. No other such edge can go: while a clause is open, its first satisfiers stay the same ones. And none can come: what has come has its clauses met by what stays.
type round struct {
	sketch
	parts [][]int
	users [][]int // of each part, the parts that need it
	waits []int   // of each part, how many parts that are left it needs
	ends  []int   // the parts that are left and wait for none; they fall, since it is the least that come and go most, which is cheap at the end
	over  bool    // the graph of what is left is another one
}

func (m move) round() *round {
	// The round's own, since it takes away from it.
	m.left = maps.Clone(m.left)
	r := &round{sketch: m.draw()}
	// No error: all edges lead to units.
	r.parts, _ = graph.Parts(r.needs)
	others, _ := graph.Condense(r.needs)
	r.users, _ = graph.Turned(others)
	for part, needed := range others {
		r.waits = append(r.waits, len(needed))
		if len(needed) == 0 {
			r.ends = append(r.ends, part)
		}
	}
	slices.Reverse(r.ends)
	return r
}

// ending goes through the ends, by their least names: the number of the part, and its units.
func (r *round) ending() iter.Seq2[int, []unit] {
	return func(yield func(int, []unit) bool) {
		for _, part := range slices.Backward(r.ends) {
			var units []unit
			for _, place := range r.parts[part] {
				units = append(units, r.units[place])
			}
			if !yield(part, units) {
				return
			}
		}
	}
}

// done notes that an end has been done.
func (r *round) done(part int, units []unit) {
	for _, u := range units {
		delete(r.left, u)
	}
	for _, u := range units {
		r.meet(r.to.of(u.in.Name))
	}
	place := r.placeOf(part)
	r.ends = slices.Delete(r.ends, place, place+1)
	for _, user := range r.users[part] {
		r.waits[user]--
		if r.waits[user] == 0 {
			r.ends = slices.Insert(r.ends, r.placeOf(user), user)
		}
	}
}

// placeOf tells where in ends a part stands, or would.
func (r *round) placeOf(part int) int {
	place, _ := slices.BinarySearchFunc(r.ends, part, func(a, b int) int { return cmp.Compare(b, a) })
	return place
}

// meet takes away the clauses that a package meets which has come; where one draws an edge to a unit that is left, the round is over.
func (r *round) meet(p api.Package) {
	for _, name := range append([]string{p.Name}, p.Provides...) {
		r.asking[name] = slices.DeleteFunc(r.asking[name], func(why reason) bool {
			_, is := relation.First(why.clause, p)
			r.over = r.over || is && r.isLeft(why.ahead)
			return is
		})
	}
}

// batches tells the next batches of a move with something to do: at least one, at most so many, as far as one look at the order graph tells them.
func (m move) batches(most int) ([]api.Batch, api.Errno) {
	var list []api.Batch
	size := len(m.from.list)
	for r := m.round(); len(list) < most && !r.over && size <= api.MaxUniverse; {
		part, units, is := r.admissible(r.ending())
		if !is {
			break
		}
		r.done(part, units)
		b := batchOf(units)
		list = append(list, b)
		size += len(b.In) - len(b.Out)
	}
	if len(list) > 0 {
		return list, api.OK
	}
	b, e := m.displace()
	if e != api.OK {
		return nil, e
	}
	return []api.Batch{b}, api.OK
}
