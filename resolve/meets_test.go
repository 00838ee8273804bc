package resolve_test

import (
	"testing"

	"larder/api"
)

// P10.4: sets that are what is asked, and those that are not.
func TestMeets(t *testing.T) {
	for _, c := range []struct {
		what, packages, installed, wishes, holds string
		set                                      []int
		want                                     bool
	}{
		{"nothing of nothing", "", "", "", "", nil, true},
		{"nothing", "aa 1", "aa 1", "", "", nil, true},
		{"two of one name", "aa 1; aa 1.0", "", "", "", []int{0, 1}, false},
		{"Depends without a satisfier", "aa 1 depends=bb; bb 1", "", "", "", []int{0}, false},
		{"Depends with one", "aa 1 depends=bb; bb 1", "", "", "", []int{0, 1}, true},
		{"Depends with one that provides", "aa 1 depends=xx; bb 1 provides=xx", "", "", "", []int{0, 1}, true},
		{"Depends with a constraint, and one that provides", "aa 1 depends=xx(>=0); bb 1 provides=xx", "", "", "", []int{0, 1}, false},
		{"the second clause", "aa 1 depends=bb depends=cc; bb 1; cc 1", "", "", "", []int{0, 1}, false},
		{"the second alternative", "aa 1 depends=cc|bb; bb 1", "", "", "", []int{0, 1}, true},
		{"its own Depends", "aa 1 depends=xx depends=aa(>=1) provides=xx", "", "", "", []int{0}, true},
		{"its own Pre-Depends", "aa 1 pre=xx provides=xx; bb 1 provides=xx", "", "", "", []int{0}, false},
		{"another one's", "aa 1 pre=xx provides=xx; bb 1 provides=xx", "", "", "", []int{0, 1}, true},
		{"its own Pre-Depends by name", "aa 1 pre=aa", "", "", "", []int{0}, false},
		{"its own Conflicts", "aa 1 conflicts=aa,xx provides=xx", "", "", "", []int{0}, true},
		{"a conflict", "aa 1 conflicts=zz,xx; bb 1 provides=xx", "", "", "", []int{0, 1}, false},
		{"a conflict of the later one", "aa 1; bb 1 conflicts=aa(<=1)", "", "", "", []int{0, 1}, false},
		{"no conflict by its constraint", "aa 1; bb 1 conflicts=aa(<<1)", "", "", "", []int{0, 1}, true},
		{"a conflict with what is not there", "aa 1; bb 1 conflicts=aa", "", "", "", []int{1}, true},
		{"one path", "aa 1 files=a,b; bb 1 files=b,c", "", "", "", []int{0, 1}, false},
		{"other paths", "aa 1 files=a,b; bb 1 files=b/c,c", "", "", "", []int{0, 1}, true},
		{"an install", "aa 1; bb 1 provides=aa", "", "install aa", "", []int{0}, true},
		{"an install by Provides", "aa 1; bb 1 provides=aa", "", "install aa", "", []int{1}, true},
		{"an install with a constraint by Provides", "aa 1; bb 1 provides=aa", "", "install aa(=1)", "", []int{1}, false},
		{"an install that nothing fits", "aa 1", "", "install aa(>>1)", "", []int{0}, false},
		{"the second install", "aa 1; bb 1", "", "install aa; install bb", "", []int{0}, false},
		{"a removal", "aa 1; bb 1 provides=aa", "aa 1", "remove aa", "", []int{0}, false},
		{"a removal, and one that provides", "aa 1; bb 1 provides=aa", "aa 1", "remove aa", "", []int{1}, true},
		{"a removal that does not fit", "aa 1; bb 1 provides=aa", "aa 1", "remove aa(>>1)", "", []int{0}, true},
		{"an upgrade without the name", "aa 1; aa 2; bb 1 provides=aa", "aa 1", "upgrade", "", []int{2}, false},
		{"an upgrade with another version", "aa 1; aa 2; bb 1", "aa 2", "upgrade", "", []int{0}, true},
		{"an upgrade of a name that a removal names", "aa 1; aa 2; bb 1", "aa 2", "upgrade; remove aa(<<1)", "", nil, true},
		{"an upgrade of a name that an install names", "aa 1; bb 1 provides=aa", "aa 1", "upgrade; install aa", "", []int{1}, false},
		{"a hold", "aa 1; aa 2", "aa 1", "", "aa", []int{0}, true},
		{"a hold, and another version", "aa 1; aa 2", "aa 1", "", "aa", []int{1}, false},
		{"a hold, and nothing", "aa 1; aa 2", "aa 1", "", "zz; aa", nil, false},
		{"a hold of what is not installed", "aa 1; bb 1", "bb 1", "", "aa", []int{1}, true},
		{"all of it", "aa 1 depends=bb; bb 1; cc 1 conflicts=aa", "bb 1", "install aa; remove cc; upgrade", "bb", []int{0, 1}, true},
	} {
		s := see(c.packages, c.installed, c.wishes, c.holds)
		if got, e := meetsOf(s, c.set); got != c.want || e != api.OK {
			t.Errorf("P10.4: %s: Meets(%v) = %t, %d", c.what, c.set, got, e)
		}
		s.hold(t)
	}
}

// P10.4: what is no set of places, rising.
func TestMeetsSet(t *testing.T) {
	s := see("aa 1; bb 1; cc 1", "", "", "")
	for _, c := range []struct {
		set  []int
		want api.Errno
	}{
		{nil, api.OK}, {[]int{}, api.OK}, {[]int{0, 1, 2}, api.OK}, {[]int{2}, api.OK},
		{[]int{0, 0}, api.ErrArg}, {[]int{1, 0}, api.ErrArg}, {[]int{0, 2, 1}, api.ErrArg}, {[]int{0, 1, 2, 2}, api.ErrArg},
		{[]int{3}, api.ErrArg}, {[]int{0, 3}, api.ErrArg}, {[]int{-1}, api.ErrArg}, {[]int{-1, 0}, api.ErrArg},
		{[]int{1<<63 - 1}, api.ErrArg}, {[]int{-1 << 63, 0}, api.ErrArg},
	} {
		if is, e := meetsOf(s, c.set); e != c.want || is != (e == api.OK) {
			t.Errorf("P10.4: Meets(%v) = %t, %d, want %d", c.set, is, e, c.want)
		}
	}
	if is, e := meetsOf(scene{}, []int{0}); is || e != api.ErrArg {
		t.Errorf("P10.4: a place of no packages: %t, %d", is, e)
	}
}
