package index_test

import (
	"slices"
	"testing"

	"larder/api"
	"larder/control"
	"larder/index"
	"larder/samples"
)

// P5.2: the document's examples.
func TestSorted(t *testing.T) {
	for _, c := range []struct {
		ps, want string
		e        api.Errno
	}{
		{"", "", api.OK},
		{"aa 1", "aa 1", api.OK},
		{"bb 1, aa 2, aa 10", "aa 10, aa 2, bb 1", api.OK},
		{"aa 1.0, aa 1", "aa 1, aa 1.0", api.OK},
		{"ab 0, aaa 0, aa+ 9, aa 9", "aa 9, aa+ 9, aaa 0, ab 0", api.OK},
		{"aa 1, aa 1", "", api.ErrIdxTwice},
		{"aa 1, bb 1, aa 1", "", api.ErrIdxTwice},
		{"aa 1, aa 1, a 1, aa x", "", api.ErrCtlName},
		{"aa 1, aa 1, aa x, a 1", "", api.ErrCtlVersion},
	} {
		if got, e := index.Sorted(packages(c.ps)); tell(got) != c.want || e != c.e {
			t.Errorf("P5.2: Sorted(%s) = %s, %d, want %s, %d", c.ps, tell(got), e, c.want, c.e)
		}
	}
}

// P5.2: the same package is so by name and version alone.
func TestTwiceThoughUnlike(t *testing.T) {
	ps := []api.Package{samples.Full("aa", "1"), pkg("aa", "1")}
	if got, e := index.Sorted(ps); len(got) != 0 || e != api.ErrIdxTwice {
		t.Errorf("P5.2: Sorted = %s, %d", tell(got), e)
	}
	if n, e := index.Check(ps); n != 1 || e != api.ErrIdxTwice {
		t.Errorf("P5.2: Check = %d, %d", n, e)
	}
}

// P5.2: Check tells the first package that is wrong.
func TestCheck(t *testing.T) {
	for _, c := range []struct {
		ps string
		n  int
		e  api.Errno
	}{
		{"", 0, api.OK},
		{"aa 10, aa 2, bb 1", 0, api.OK},
		{"aa 1, aa 1.0, aa 1.00, aa+ 1, aaa 0", 0, api.OK},
		{"a 1", 0, api.ErrCtlName},
		{"aa 1, aa 1", 1, api.ErrIdxTwice},
		{"aa 1, bb 1, aa 1", 2, api.ErrIdxOrder},
		{"aa 2, aa 10", 1, api.ErrIdxOrder},
		{"aa 1, bb 1, cc 1, ba 1, dd 1, aa 1", 3, api.ErrIdxOrder},
		{"aa 1, bb 1, bb 1, aa 1, a 1", 2, api.ErrIdxTwice},
		{"bb 1, a 1", 1, api.ErrCtlName},
		{"bb 1, aa x", 1, api.ErrCtlVersion},
		{"aa 1, aa 1, a 1", 1, api.ErrIdxTwice},
		{"aa 1, a 1, aa 1", 1, api.ErrCtlName},
	} {
		if n, e := index.Check(packages(c.ps)); n != c.n || e != c.e {
			t.Errorf("P5.2: Check(%s) = %d, %d, want %d, %d", c.ps, n, e, c.n, c.e)
		}
	}
}

// oracleSorted tells Sorted's answer by the words of the document.
func oracleSorted(ps []api.Package) ([]api.Package, api.Errno) {
	count := map[string]int{}
	for _, p := range ps {
		if e := control.Check(p); e != api.OK {
			return nil, e
		}
		count[rank(p)]++
	}
	if len(count) < len(ps) {
		return nil, api.ErrIdxTwice
	}
	return inOrder(ps), api.OK
}

// oracleCheck tells Check's answer likewise.
func oracleCheck(ps []api.Package) (int, api.Errno) {
	for i, p := range ps {
		if e := control.Check(p); e != api.OK {
			return i, e
		}
		if i > 0 && rank(ps[i-1]) == rank(p) {
			return i, api.ErrIdxTwice
		}
		if i > 0 && rank(ps[i-1]) > rank(p) {
			return i, api.ErrIdxOrder
		}
	}
	return 0, api.OK
}

// P5.2, P5.3, P5.4, P5.6: all lists of up to four packages, right and wrong ones.
func TestOrderSmall(t *testing.T) {
	all := packages("aa 1, aa 1.0, aa 10, aa 9, aa- 1, aaa 1, ab 1, a 1, ab x")
	all = append(all, api.Package{Name: "aa", Version: "1", Summary: "another one"}, api.Package{Name: "aa", Version: "1", Summary: " "})
	lists := [][]api.Package{nil}
	for from := 0; len(lists[len(lists)-1]) < 4; {
		end := len(lists)
		for _, list := range lists[from:end] {
			for _, p := range all {
				lists = append(lists, append(slices.Clone(list), p))
			}
		}
		from = end
	}
	for _, ps := range lists {
		want, wantE := oracleSorted(ps)
		if got, e := index.Sorted(ps); e != wantE || !same(got, want) {
			t.Fatalf("P5.2: Sorted(%s) = %s, %d, want %s, %d", tell(ps), tell(got), e, tell(want), wantE)
		}
		wantPlace, wrong := oracleCheck(ps)
		if n, e := index.Check(ps); n != wantPlace || e != wrong {
			t.Fatalf("P5.2: Check(%s) = %d, %d, want %d, %d", tell(ps), n, e, wantPlace, wrong)
		}
		if table, e := index.New(ps); e != wrong || (table == nil) != (wrong != api.OK) || table.Len() != len(ps) && wrong == api.OK {
			t.Fatalf("P5.6: New(%s) = %d packages, %d, want %d", tell(ps), table.Len(), e, wrong)
		}
		if wantE == api.OK {
			holdPrinted(t, ps)
		} else {
			holdPrintWrong(t, tell(ps), ps, wantE)
		}
	}
}

// P5.2: MaxUniverse packages, and one more, which is told ahead of all else.
func TestOrderMany(t *testing.T) {
	all := many(api.MaxUniverse + 1)
	most := all[:api.MaxUniverse]
	if got, e := index.Sorted(most); e != api.OK || !same(got, most) {
		t.Errorf("P5.2: Sorted of MaxUniverse = %d, %d", len(got), e)
	}
	if n, e := index.Check(most); n != 0 || e != api.OK {
		t.Errorf("P5.2: Check of MaxUniverse = %d, %d", n, e)
	}
	backward := slices.Clone(most)
	slices.Reverse(backward)
	if got, e := index.Sorted(backward); e != api.OK || !same(got, most) {
		t.Errorf("P5.2: Sorted of MaxUniverse turned about = %d, %d", len(got), e)
	}
	if n, e := index.Check(backward); n != 1 || e != api.ErrIdxOrder {
		t.Errorf("P5.2: Check of MaxUniverse turned about = %d, %d", n, e)
	}
	last := slices.Clone(most)
	last[len(last)-1] = last[len(last)-2]
	if n, e := index.Check(last); n != api.MaxUniverse-1 || e != api.ErrIdxTwice {
		t.Errorf("P5.2: Check of MaxUniverse with twins at the end = %d, %d", n, e)
	}
	for _, wrong := range [][]api.Package{all, append(packages("a 1"), most...), append(packages("p100000 1"), most...), append(backward, backward...)} {
		if got, e := index.Sorted(wrong); len(got) != 0 || e != api.ErrIdxMany {
			t.Errorf("P5.2: Sorted of more than MaxUniverse = %d, %d", len(got), e)
		}
		if n, e := index.Check(wrong); n != api.MaxUniverse || e != api.ErrIdxMany {
			t.Errorf("P5.2: Check of more than MaxUniverse = %d, %d", n, e)
		}
		if table, e := index.New(wrong); table != nil || e != api.ErrIdxMany {
			t.Errorf("P5.6: New of more than MaxUniverse: %d", e)
		}
	}
}
