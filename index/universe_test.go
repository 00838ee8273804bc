package index_test

import (
	"slices"
	"testing"

	"larder/api"
	"larder/index"
	"larder/samples"
)

// installed tells packages as what is held, with marks of any kind.
func installed(ps []api.Package) []api.Held {
	var list []api.Held
	for i, p := range ps {
		list = append(list, api.Held{Package: p, Mark: i%4 - 1})
	}
	return list
}

// said tells packages with a summary.
func said(ps []api.Package, summary string) []api.Package {
	list := slices.Clone(ps)
	for i := range list {
		list[i].Summary = summary
	}
	return list
}

// P5.5: example 3.
func TestUniverse(t *testing.T) {
	u, e := index.Universe(said(packages("aa 1"), "x"), installed(append(said(packages("aa 1"), "y"), pkg("bb", "1"))))
	if e != api.OK || tell(u) != "aa 1, bb 1" || u[0].Summary != "y" || u[1].Summary != "" {
		t.Errorf("P5.5: Universe = %+v, %d", u, e)
	}
	if u, e := index.Universe(nil, nil); len(u) != 0 || e != api.OK {
		t.Errorf("P5.5: Universe of nothing = %+v, %d", u, e)
	}
	if u, e := index.Universe([]api.Package{}, []api.Held{}); len(u) != 0 || e != api.OK {
		t.Errorf("P5.5: Universe of empty lists = %+v, %d", u, e)
	}
	// The installed stanza counts whole, even where it says less.
	lean := packages("aa 1")
	if u, e := index.Universe([]api.Package{samples.Full("aa", "1"), samples.Full("aa", "2")}, installed(lean)); e != api.OK || !same(u, []api.Package{lean[0], samples.Full("aa", "2")}) {
		t.Errorf("P5.5: Universe = %+v, %d", u, e)
	}
}

// chosen tells those of some packages whose bits are set, the last one first.
func chosen(all []api.Package, bits int) []api.Package {
	var list []api.Package
	for i := len(all) - 1; i >= 0; i-- {
		if bits>>i&1 == 1 {
			list = append(list, all[i])
		}
	}
	return list
}

// P5.5: an index and what is held, with none, some and all packages in common.
func TestUniverseCommon(t *testing.T) {
	all := packages("aa 1, aa 1.0, aa 2, aaa 1, ab 1")
	for ours := range 1 << len(all) {
		for theirs := range 1 << len(all) {
			var want []api.Package
			for i, p := range all {
				switch {
				case theirs>>i&1 == 1:
					p.Summary = "held"
				case ours>>i&1 == 1:
					p.Summary = "index"
				default:
					continue
				}
				want = append(want, p)
			}
			u, e := index.Universe(said(chosen(all, ours), "index"), installed(said(chosen(all, theirs), "held")))
			if e != api.OK || !same(u, want) {
				t.Fatalf("P5.5: Universe(%s; %s) = %+v, %d", tell(chosen(all, ours)), tell(chosen(all, theirs)), u, e)
			}
			if n, e := index.Check(u); n != 0 || e != api.OK {
				t.Fatalf("P5.5: Check of Universe: %d, %d", n, e)
			}
		}
	}
}

// P5.5: what is wrong with the index is told ahead of what is wrong with what is held.
func TestUniverseWrong(t *testing.T) {
	for _, c := range []struct {
		ps, held string
		e        api.Errno
	}{
		{"aa 1, bb 1, aa 1", "", api.ErrIdxTwice},
		{"", "aa 1, bb 1, aa 1", api.ErrIdxTwice},
		{"aa x", "a 1", api.ErrCtlVersion},
		{"a 1", "aa x", api.ErrCtlName},
		{"aa 1", "aa 1, a 1", api.ErrCtlName},
		{"aa 1, aa 1", "a 1", api.ErrIdxTwice},
		{"aa 1, aa 1, a 1", "aa x", api.ErrCtlName},
		{"aa 1", "bb 1, bb 1, aa x", api.ErrCtlVersion},
	} {
		if u, e := index.Universe(packages(c.ps), installed(packages(c.held))); len(u) != 0 || e != c.e {
			t.Errorf("P5.5: Universe(%s; %s) = %s, %d, want %d", c.ps, c.held, tell(u), e, c.e)
		}
	}
}

// P5.5: MaxUniverse packages, each once, are taken, one more is not.
func TestUniverseMany(t *testing.T) {
	all := many(api.MaxUniverse + 1)
	most, half := all[:api.MaxUniverse], api.MaxUniverse/2
	for _, c := range []struct {
		what     string
		ps, held []api.Package
		want     []api.Package
		e        api.Errno
	}{
		{"MaxUniverse; 0", most, nil, most, api.OK},
		{"0; MaxUniverse", nil, most, most, api.OK},
		{"MaxUniverse; the same", most, most, most, api.OK},
		{"both halves", all[half:api.MaxUniverse], all[:half], most, api.OK},
		{"halves that have some in common", all[half-7 : api.MaxUniverse], all[:half], most, api.OK},
		{"both halves and one more", all[:half], all[half:], nil, api.ErrIdxMany},
		{"MaxUniverse and another", most, all[api.MaxUniverse:], nil, api.ErrIdxMany},
		{"another and MaxUniverse", all[:1], all[1:], nil, api.ErrIdxMany},
		{"MaxUniverse + 1; 0", all, nil, nil, api.ErrIdxMany},
		{"0; MaxUniverse + 1", nil, all, nil, api.ErrIdxMany},
		{"MaxUniverse + 1; a wrong one", all, packages("a 1"), nil, api.ErrIdxMany},
		{"a wrong one; MaxUniverse + 1", packages("a 1"), all, nil, api.ErrCtlName},
		{"MaxUniverse; a wrong one", most, packages("a 1"), nil, api.ErrCtlName},
		{"MaxUniverse; twins", most, packages("aa 1, aa 1"), nil, api.ErrIdxTwice},
	} {
		if u, e := index.Universe(c.ps, installed(c.held)); e != c.e || !same(u, c.want) {
			t.Errorf("P5.5: Universe of %s = %d packages, %d, want %d, %d", c.what, len(u), e, len(c.want), c.e)
		}
	}
}
