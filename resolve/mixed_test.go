package resolve_test

import (
	"math/rand/v2"
	"slices"
	"strings"
	"testing"

	"larder/api"
)

// P10.1 to P10.9: all choices of three packages, two of one name, each of some kinds; with some requests.
func TestSmall(t *testing.T) {
	t.Parallel()
	kinds := []string{
		"", "essential", "depends=bb", "depends=aa(>=2)", "depends=xx|bb", "pre=xx", "pre=aa", "conflicts=bb", "conflicts=aa(<<2),xx",
		"provides=xx", "provides=xx,bb pre=xx depends=xx conflicts=xx", "files=f", "provides=aa files=f,g", "depends=zz",
	}
	requests := []struct{ installed, wishes, holds string }{
		{"", "", ""},
		{"aa 1; bb 1", "", ""},
		{"aa 1", "install xx; install bb", "aa"},
		{"aa 2; bb 1", "upgrade; install aa(<=1)", "bb; bb; zz"},
		{"bb 1; aa 1", "remove aa(>>1); upgrade", ""},
		{"aa 1; bb 1", "upgrade; remove bb; install zz", "aa"},
	}
	unlike := map[api.Errno]int{}
	for _, first := range kinds {
		for _, second := range kinds {
			for _, third := range kinds {
				for _, r := range requests {
					s := see("aa 1 "+first+"; aa 2 "+second+"; bb 1 "+third, r.installed, r.wishes, r.holds)
					unlike[s.hold(t).e]++
				}
			}
		}
	}
	for _, e := range []api.Errno{api.OK, api.ErrResUnsat, api.ErrResEssential} {
		if unlike[e] < 100 {
			t.Errorf("the scenes are no good: %v", unlike)
		}
	}
}

// pick tells one of some texts.
func pick(r *rand.Rand, texts ...string) string { return texts[r.IntN(len(texts))] }

// mixedAtom tells an atom of a name that may be there, or be provided alone.
func mixedAtom(r *rand.Rand) string {
	name := pick(r, "aa", "aa", "bb", "bb", "cc", "xx", "xx", "yy")
	if r.IntN(3) > 0 {
		return name
	}
	return name + "(" + pick(r, "<<", "<=", "=", ">=", ">>") + pick(r, "1", "1.0", "2", "9", "10") + ")"
}

func mixedRow(r *rand.Rand, between string, most int) string {
	list := []string{mixedAtom(r)}
	for range r.IntN(most) {
		list = append(list, mixedAtom(r))
	}
	return strings.Join(list, between)
}

// mixedWords tells what a package says, less of what forbids as there is more of it.
func mixedWords(r *rand.Rand) string {
	var words []string
	if r.IntN(8) == 0 {
		words = append(words, "essential")
	}
	for range r.IntN(3) {
		words = append(words, "depends="+mixedRow(r, "|", 3))
	}
	if r.IntN(4) == 0 {
		words = append(words, "pre="+mixedRow(r, "|", 3))
	}
	if r.IntN(4) == 0 {
		words = append(words, "conflicts="+mixedRow(r, ",", 3))
	}
	if r.IntN(2) == 0 {
		words = append(words, "provides="+pick(r, "xx", "yy", "xx,yy", "yy,xx,yy", "aa", "bb,xx"))
	}
	if r.IntN(4) == 0 {
		words = append(words, "files="+pick(r, "f", "f,g", "a,f", "g,h", "a/b"))
	}
	return strings.Join(words, " ")
}

// mixed makes a scene of a few names.
func mixed(r *rand.Rand) scene {
	var packages, installed, wishes, holds []string
	for _, name := range []string{"aa", "bb", "cc", "dd"} {
		versions := []string{"1", "1.0", "10", "9"}
		r.Shuffle(len(versions), func(i, j int) { versions[i], versions[j] = versions[j], versions[i] })
		versions = versions[:r.IntN(3)]
		slices.Sort(versions)
		for _, v := range versions {
			packages = append(packages, name+" "+v+" "+mixedWords(r))
		}
		if len(versions) > 0 && r.IntN(2) == 0 {
			installed = append(installed, name+" "+versions[r.IntN(len(versions))])
		}
		if r.IntN(6) == 0 {
			holds = append(holds, name)
		}
	}
	for range r.IntN(4) {
		switch r.IntN(5) {
		case 0:
			wishes = append(wishes, "upgrade")
		case 1:
			wishes = append(wishes, "remove "+mixedAtom(r))
		default:
			wishes = append(wishes, "install "+mixedAtom(r))
		}
	}
	r.Shuffle(len(installed), func(i, j int) { installed[i], installed[j] = installed[j], installed[i] })
	r.Shuffle(len(holds), func(i, j int) { holds[i], holds[j] = holds[j], holds[i] })
	s := see(strings.Join(packages, "; "), strings.Join(installed, "; "), strings.Join(wishes, "; "), strings.Join(holds, "; "))
	for range r.IntN(3) {
		p := api.Pin{Name: pick(r, "*", "aa", "bb"), Priority: []int{-1, 0, 400, 600, 999, 1000}[r.IntN(6)]}
		if r.IntN(2) == 0 {
			p.Op, p.Version = 1+r.IntN(5), pick(r, "1", "1.0", "9")
		}
		s.r.Pins = append(s.r.Pins, p)
	}
	for i := range s.held {
		s.held[i].Mark = r.IntN(2)
	}
	return s
}

// P10.1 to P10.9: mixed scenes.
func TestMixed(t *testing.T) {
	t.Parallel()
	r := rand.New(rand.NewPCG(10, 1))
	errors, left, quiet, changed := map[api.Errno]int{}, 0, 0, 0
	for range 4000 {
		is := mixed(r).hold(t)
		errors[is.e]++
		if is.left > 0 {
			left++
		}
		if is.quiet {
			quiet++
		}
		if is.e == api.OK && is.changed {
			changed++
		}
	}
	if errors[api.OK] < 1000 || errors[api.ErrResUnsat] < 300 || errors[api.ErrResBoth] < 50 || errors[api.ErrResEssential] < 20 || left < 1000 || quiet < 300 || changed < 500 {
		t.Errorf("the mixture is no good: %v, clauses left out in %d, quiet %d, changed %d", errors, left, quiet, changed)
	}
}
