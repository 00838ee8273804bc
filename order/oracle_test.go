package order_test

import (
	"cmp"
	"maps"
	"slices"

	"larder/api"
	"larder/relation"
	"larder/valid"
)

// The document's words, said of two sets of packages.

type set = []api.Package

func key(p api.Package) api.Key { return api.Key{Name: p.Name, Version: p.Version} }

func keys(s set) []api.Key {
	var list []api.Key
	for _, p := range s {
		list = append(list, key(p))
	}
	return list
}

func byName(p, q api.Package) int { return cmp.Compare(p.Name, q.Name) }

func has(s set, k api.Key) bool { return slices.Contains(keys(s), k) }

// named tells the package of a name, as a list of one or none.
func named(s set, name string) set {
	return only(s, func(p api.Package) bool { return p.Name == name })
}

func only(s set, right func(api.Package) bool) set {
	return slices.DeleteFunc(slices.Clone(s), func(p api.Package) bool { return !right(p) })
}

// clause is a clause of a package.
type clause struct {
	api.Clause
	who api.Key
	pre bool
}

func clauses(p api.Package) []clause {
	var list []clause
	for _, c := range p.Depends {
		list = append(list, clause{c, key(p), false})
	}
	for _, c := range p.PreDepends {
		list = append(list, clause{c, key(p), true})
	}
	return list
}

// satisfiers tells the packages that meet an atom of a clause, by rising names.
func satisfiers(s set, c clause, a api.Atom) set {
	list := only(s, func(p api.Package) bool { return relation.Meets(a, p) && !(c.pre && key(p) == c.who) })
	slices.SortFunc(list, byName)
	return list
}

// first tells the first satisfier of a clause, as a list of one or none.
func first(s set, c clause) set {
	for _, a := range c.Clause {
		if list := satisfiers(s, c, a); len(list) > 0 {
			return list[:1]
		}
	}
	return nil
}

func isMet(s set, c clause) bool { return len(first(s, c)) > 0 }

// way is a state and a target.
type way struct{ s, t set }

func (w way) changes() []string {
	names := map[string]int{}
	for _, p := range slices.Concat(w.s, w.t) {
		if !has(w.s, key(p)) || !has(w.t, key(p)) {
			names[p.Name]++
		}
	}
	return slices.Sorted(maps.Keys(names))
}

func (w way) stays() set { return only(w.s, func(p api.Package) bool { return has(w.t, key(p)) }) }

// goes and comes tell what goes and comes with a unit, as a list of one or none.
func (w way) goes(name string) set {
	return only(named(w.s, name), func(p api.Package) bool { return !has(w.t, key(p)) })
}

func (w way) comes(name string) set {
	return only(named(w.t, name), func(p api.Package) bool { return !has(w.s, key(p)) })
}

// open tells the open clauses of some packages.
func (w way) open(s set) []clause {
	var list []clause
	stays := w.stays()
	for _, p := range s {
		for _, c := range clauses(p) {
			if !isMet(stays, c) {
				list = append(list, c)
			}
		}
	}
	return list
}

// areOne tells whether a list of one or none is a certain other such list, and there is one.
func areOne(a, b set) bool { return len(a) > 0 && len(b) > 0 && key(a[0]) == key(b[0]) }

func conflict(p, q api.Package) bool {
	return slices.ContainsFunc(p.Conflicts, func(a api.Atom) bool { return relation.Meets(a, q) })
}

func sharePath(p, q api.Package) bool {
	return slices.ContainsFunc(p.Files, func(f api.File) bool {
		return slices.ContainsFunc(q.Files, func(g api.File) bool { return f.Path == g.Path })
	})
}

// kinds tells which kinds of edge lead from one unit to another.
func (w way) kinds(u, v string) []int {
	if u == v {
		return nil
	}
	is := map[int]int{}
	for _, c := range w.open(w.comes(u)) {
		if areOne(first(w.t, c), w.comes(v)) {
			is[1]++
		}
	}
	for _, c := range w.open(w.goes(v)) {
		if areOne(first(w.s, c), w.goes(u)) {
			is[2]++
		}
	}
	for _, c := range w.open(w.stays()) {
		if areOne(first(w.s, c), w.goes(u)) && areOne(first(w.t, c), w.comes(v)) {
			is[3]++
		}
	}
	for _, p := range w.comes(u) {
		for _, q := range w.goes(v) {
			if conflict(p, q) || conflict(q, p) || sharePath(p, q) {
				is[4]++
			}
		}
	}
	return slices.Sorted(maps.Keys(is))
}

// reach tells of each two nodes whether the one reaches the other.
func reach(needs [][]int) [][]bool {
	is := make([][]bool, len(needs))
	for u := range needs {
		is[u] = make([]bool, len(needs))
		is[u][u] = true
		for _, v := range needs[u] {
			is[u][v] = true
		}
	}
	for m := range needs {
		for u := range needs {
			for v := range needs {
				is[u][v] = is[u][v] || is[u][m] && is[m][v]
			}
		}
	}
	return is
}

// parts tells the places of each part, by their least ones.
func parts(needs [][]int) [][]int {
	is := reach(needs)
	var list [][]int
	for u := range needs {
		var part []int
		for v := range needs {
			if is[u][v] && is[v][u] {
				part = append(part, v)
			}
		}
		if part[0] == u {
			list = append(list, part)
		}
	}
	return list
}

// look is a way with its order graph.
type look struct {
	way
	names []string
	kinds [][][]int // of each two units, which kinds of edge lead from the one to the other
	needs [][]int
	ends  [][]string
	at    int // which of ends is the first that is admissible; -1: none
}

func (w way) look() look {
	l := look{way: w, names: w.changes()}
	for i, u := range l.names {
		l.kinds, l.needs = append(l.kinds, nil), append(l.needs, nil)
		for j, v := range l.names {
			kinds := w.kinds(u, v)
			l.kinds[i] = append(l.kinds[i], kinds)
			if len(kinds) > 0 {
				l.needs[i] = append(l.needs[i], j)
			}
		}
	}
	for _, part := range parts(l.needs) {
		if !slices.ContainsFunc(part, func(u int) bool {
			return slices.ContainsFunc(l.needs[u], func(v int) bool { return !slices.Contains(part, v) })
		}) {
			var end []string
			for _, u := range part {
				end = append(end, l.names[u])
			}
			l.ends = append(l.ends, end)
		}
	}
	l.at = slices.IndexFunc(l.ends, w.isAdmissible)
	return l
}

func (w way) isAdmissible(names []string) bool {
	stay := only(w.s, func(p api.Package) bool { return !slices.Contains(names, p.Name) })
	for _, name := range names {
		for _, p := range w.comes(name) {
			for _, c := range clauses(p) {
				if c.pre && !isMet(stay, c) {
					return false
				}
			}
		}
	}
	return true
}

// kept tells R: what is left of what stays, when again and again one goes that has a clause that is not met.
func (w way) kept() set {
	list := w.stays()
	for {
		i := slices.IndexFunc(list, func(p api.Package) bool {
			return slices.ContainsFunc(clauses(p), func(c clause) bool { return !isMet(list, c) })
		})
		if i < 0 {
			return list
		}
		list = slices.Delete(slices.Clone(list), i, i+1)
	}
}

// batch tells what goes and comes with units.
func (w way) batch(names []string) api.Batch {
	var b api.Batch
	for _, name := range names {
		b.Out = append(b.Out, keys(w.goes(name))...)
		b.In = append(b.In, keys(w.comes(name))...)
	}
	return b
}

func (l look) next() (api.Batch, bool, api.Errno) {
	switch {
	case len(l.names) == 0:
		return api.Batch{}, false, api.OK
	case l.at >= 0:
		return l.batch(l.ends[l.at]), true, api.OK
	case len(l.stays()) == len(l.s):
		return api.Batch{}, false, api.ErrOrdCycle
	}
	kept := l.kept()
	return api.Batch{Out: keys(only(l.s, func(p api.Package) bool { return !has(kept, key(p)) }))}, true, api.OK
}

func (w way) behind(b api.Batch) (set, api.Errno) {
	for _, list := range [][]api.Key{b.Out, b.In} {
		for i := 1; i < len(list); i++ {
			if list[i-1].Name >= list[i].Name {
				return nil, api.ErrOrdPlan
			}
		}
	}
	for _, k := range b.Out {
		if !has(w.s, k) || slices.Contains(b.In, k) {
			return nil, api.ErrOrdPlan
		}
	}
	list := only(w.s, func(p api.Package) bool { return !slices.Contains(b.Out, key(p)) })
	for _, k := range b.In {
		if !has(w.t, k) || len(named(list, k.Name)) > 0 {
			return nil, api.ErrOrdPlan
		}
		list = append(list, named(w.t, k.Name)...)
	}
	slices.SortFunc(list, byName)
	return list, api.OK
}

// looks tells what there is to be seen from state to state, the last one where there is no next batch.
func (w way) looks() []look {
	var list []look
	for {
		l := w.look()
		list = append(list, l)
		b, more, _ := l.next()
		if !more {
			return list
		}
		behind, e := w.behind(b)
		if e != api.OK {
			panic(e)
		}
		w.s = behind
	}
}

// planOf tells the plan that was seen.
func planOf(looks []look) ([]api.Batch, api.Errno) {
	var plan []api.Batch
	for _, l := range looks {
		b, more, e := l.next()
		if e != api.OK {
			return nil, e
		}
		if more {
			plan = append(plan, b)
		}
	}
	return plan, api.OK
}

func (w way) check(plan []api.Batch) api.Errno {
	for _, b := range plan {
		ahead := w.s
		behind, e := w.behind(b)
		if e != api.OK || !valid.Valid(behind) || len(b.Out)+len(b.In) == 0 {
			return api.ErrOrdPlan
		}
		through := only(ahead, func(p api.Package) bool { return has(behind, key(p)) })
		for _, k := range b.In {
			for _, c := range clauses(named(w.t, k.Name)[0]) {
				if c.pre && !isMet(through, c) {
					return api.ErrOrdPlan
				}
			}
		}
		w.s = behind
	}
	if !slices.Equal(keys(w.s), keys(w.t)) {
		return api.ErrOrdPlan
	}
	return api.OK
}

func (w way) displaced(plan []api.Batch) []api.Key {
	return keys(only(w.stays(), func(p api.Package) bool {
		return slices.ContainsFunc(plan, func(b api.Batch) bool { return slices.Contains(b.Out, key(p)) })
	}))
}

// isRealCycle tells what P13.8 says of a plan that is none.
func (w way) isRealCycle() bool {
	kept := w.kept()
	outside := only(w.t, func(p api.Package) bool { return !has(kept, key(p)) })
	needs := make([][]int, len(outside))
	type edge struct{ u, v int }
	var pre []edge
	for u, p := range outside {
		for _, c := range clauses(p) {
			if isMet(kept, c) {
				continue
			}
			v := slices.IndexFunc(outside, func(q api.Package) bool { return areOne(first(w.t, c), set{q}) })
			needs[u] = append(needs[u], v)
			if c.pre {
				pre = append(pre, edge{u, v})
			}
		}
	}
	is := reach(needs)
	return slices.ContainsFunc(pre, func(e edge) bool { return is[e.v][e.u] })
}
