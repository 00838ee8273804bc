package resolve_test

import (
	"slices"
	"testing"

	"larder/api"
)

// P10.5: the document's examples, and targets that many programs would find and others that only this one does.
func TestTarget(t *testing.T) {
	for _, c := range []struct {
		what, packages, installed, wishes, holds string
		want                                     []int
		steps                                    int
		e                                        api.Errno
	}{
		{"nothing", "", "", "", "", nil, 0, api.OK},
		{"example 1", "aa 1; bb 1 depends=aa", "", "install bb", "", []int{0, 1}, 6, api.OK},
		{"example 2", "aa 1; aa 2", "aa 1", "", "", []int{0}, 3, api.OK},
		{"example 2, upgraded", "aa 1; aa 2", "aa 1", "upgrade", "", []int{1}, 6, api.OK},
		{"example 3", "aa 1 conflicts=xx; bb 1 provides=xx", "", "install aa; install bb", "", nil, 0, api.ErrResUnsat},
		{"example 3, alone", "aa 1 provides=xx conflicts=xx", "", "install aa", "", []int{0}, 2, api.OK},
		{"example 4", "aa 1 pre=xx provides=xx", "", "install aa", "", nil, 0, api.ErrResUnsat},
		{"example 4, Depends", "aa 1 depends=xx provides=xx", "", "install aa", "", []int{0}, 2, api.OK},
		{"example 5", "aa 1", "aa 1", "remove aa", "aa", nil, 0, api.ErrResUnsat},
		{"example 5, both", "aa 1; aa 2", "", "install aa(>=2); remove aa(<<2)", "", nil, 0, api.ErrResBoth},
		{"an install without satisfiers", "aa 1", "", "install zz", "", nil, 0, api.ErrResUnsat},
		{"what nobody asks for is not there", "aa 1; bb 1 depends=aa", "", "", "", nil, 1, api.OK},
		{"a removal takes what needs it along", "aa 1; bb 1 depends=aa", "aa 1; bb 1", "remove aa", "", nil, 6, api.OK},
		{"what is installed stays, where it may", "aa 1; bb 1; bb 2; cc 1 depends=bb", "bb 1", "install cc", "", []int{1, 3}, 12, api.OK},
		{"an Essential one is kept ahead of the other", "aa 1 conflicts=bb; bb 1 essential", "aa 1; bb 1", "", "", []int{1}, 3, api.OK},
		{"a conflict takes what is installed away", "aa 1; bb 1 conflicts=aa", "aa 1", "install bb", "", []int{1}, 6, api.OK},
		{"an upgrade that may not be", "aa 1; aa 2 depends=zz", "aa 1", "upgrade", "", []int{0}, 9, api.OK},
		{"a hold in an upgrade", "aa 1; aa 2", "aa 1", "upgrade", "aa", []int{0}, 9, api.OK},
	} {
		s := see(c.packages, c.installed, c.wishes, c.holds)
		set, steps, e := targetOf(s)
		if !slices.Equal(set, c.want) || steps != c.steps || e != c.e {
			t.Errorf("P10.5: %s: Target = %v, %d, %d, want %v, %d, %d", c.what, set, steps, e, c.want, c.steps, c.e)
		}
		s.hold(t)
	}
}

// P10.5: all budgets up to the looks that are needed, and beyond.
func TestBudget(t *testing.T) {
	for _, c := range []struct {
		wishes string
		e      api.Errno
	}{{"install aa; install cc", api.OK}, {"install aa; install bb; install cc", api.ErrResUnsat}} {
		s := see("aa 1 depends=xx; bb 1 conflicts=yy provides=xx; cc 1 provides=yy; dd 1 depends=zz provides=xx; ee 1 provides=xx", "bb 1", c.wishes, "")
		s.r.Budget = api.MaxBudget
		want, needed, e := targetOf(s)
		if e != c.e {
			t.Fatalf("P10.5: %s: Target = %v, %d, %d", c.wishes, want, needed, e)
		}
		spent := 0
		for s.r.Budget = 0; ; s.r.Budget++ {
			set, steps, e := targetOf(s)
			if e != api.ErrResBudget {
				if e != c.e || !slices.Equal(set, want) || steps != needed || e == api.OK && s.r.Budget != steps {
					t.Errorf("P10.5: %s, with a budget of %d: %v, %d, %d", c.wishes, s.r.Budget, set, steps, e)
				}
				break
			}
			if spent++; len(set) > 0 || steps != 0 || spent > 1000 {
				t.Fatalf("P10.5: %s, with a budget of %d: %v, %d", c.wishes, s.r.Budget, set, steps)
			}
		}
		if spent < 10 {
			t.Errorf("P10.5: %s: only %d looks are needed", c.wishes, spent)
		}
		s.r.Budget = -1
		if _, _, e := targetOf(s); e != api.ErrArg {
			t.Errorf("P10.5: a budget of -1: %d", e)
		}
	}
}

// P10.9: asked again, with what has come installed, nothing changes.
func TestQuiet(t *testing.T) {
	s := see("aa 1; aa 2 conflicts=bb; bb 1 depends=xx; cc 1 provides=xx; dd 1 provides=xx", "aa 2; dd 1", "install bb; remove cc", "dd")
	set, _, e := targetOf(s)
	if e != api.OK || !slices.Equal(set, []int{2, 4}) {
		t.Fatalf("P10.5: Target = %v, %d", set, e)
	}
	s.held = nil
	for _, p := range set {
		s.held = append(s.held, api.Held{Package: s.u[p], Mark: api.MarkAuto})
	}
	for _, holds := range [][]string{s.r.Holds, {"bb", "dd"}, nil} {
		s.r.Holds = holds
		if is := s.hold(t); !is.quiet || is.changed || is.e != api.OK {
			t.Errorf("P10.9: with holds %v: %+v", holds, is)
		}
	}
}
