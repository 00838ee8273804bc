package debver_test

import (
	"math/big"
	"slices"
	"strings"
	"testing"

	"larder/api"
	"larder/debver"
	"larder/samples"
)

// weight and policyOrder hold two parts against one another the way dpkg does: in one pass over both, with weights of its own.
func weight(s string, i int) int {
	if i >= len(s) {
		return 0
	}
	c := s[i]
	switch {
	case c >= '0' && c <= '9':
		return 0
	case c >= 'a' && c <= 'z', c >= 'A' && c <= 'Z':
		return int(c)
	case c == '~':
		return -1
	}
	return int(c) + 256
}

func digitAt(s string, i int) bool { return i < len(s) && s[i] >= '0' && s[i] <= '9' }

func policyOrder(a, b string) int {
	i, k := 0, 0
	for i < len(a) || k < len(b) {
		for i < len(a) && !digitAt(a, i) || k < len(b) && !digitAt(b, k) {
			if d := weight(a, i) - weight(b, k); d != 0 {
				return sign(d)
			}
			i, k = i+1, k+1
		}
		for i < len(a) && a[i] == '0' {
			i++
		}
		for k < len(b) && b[k] == '0' {
			k++
		}
		first := 0
		for digitAt(a, i) && digitAt(b, k) {
			if first == 0 {
				first = int(a[i]) - int(b[k])
			}
			i, k = i+1, k+1
		}
		if digitAt(a, i) {
			return 1
		}
		if digitAt(b, k) {
			return -1
		}
		if first != 0 {
			return sign(first)
		}
	}
	return 0
}

func sign(d int) int {
	switch {
	case d < 0:
		return -1
	case d > 0:
		return 1
	}
	return 0
}

func TestOrderOfExamples(t *testing.T) { // P1.2, P1.3, P0.13, example 3
	rising := [][]string{
		{"0~"}, {"0-~"}, {"0", "00", "0-0"}, {"1.0~~"}, {"1.0~~a"}, {"1.0~"}, {"1.0-~1"},
		{"1.0", "1.00", "0:1.0", "1.0-0", "00:1.0-00"}, {"1.0-0a"}, {"1.0-1"}, {"1.0-a"}, {"1.0Z"}, {"1.0a"}, {"1.0ab"},
		{"1.0+"}, {"1.0-1-1"}, {"1.0."}, {"1.2"}, {"1.10", "1.010"}, {"9"}, {"10"},
		{"18446744073709551615"}, {"18446744073709551616"}, {"99999999999999999999"},
		{"1:0"}, {"1:99999999999999999999"}, {"2:0", "02:0"}, {"10:0~"}, {"99999999999999999999:0"},
	}
	for i, a := range rising {
		for k, b := range rising {
			for _, x := range a {
				for _, y := range b {
					if d, e := debver.Compare(x, y); d != sign(i-k) || e != api.OK {
						t.Errorf("Compare(%q, %q) = %d, %d; want %d", x, y, d, e, sign(i-k))
					}
				}
			}
		}
	}
}

func TestOrderOfSmallParts(t *testing.T) { // P1.2: against the Policy's order, upstream and revision alike
	parts := append(samples.Texts(strings.Split("01a~.", ""), 4), samples.Texts(strings.Split("9Zz-:\x00\xff", ""), 2)...)
	for _, a := range parts {
		for _, b := range parts {
			want := policyOrder(a, b)
			if d := debver.Order(api.Version{Upstream: a}, api.Version{Upstream: b}); d != want {
				t.Fatalf("upstream %q, %q: %d, want %d", a, b, d, want)
			}
			if d := debver.Order(api.Version{Revision: a}, api.Version{Revision: b}); d != want {
				t.Fatalf("revision %q, %q: %d, want %d", a, b, d, want)
			}
		}
	}
}

func TestOrderOfEachByte(t *testing.T) { // P1.2: tilde, the end, letters, the others
	ranked := []string{"~", ""}
	for i := range 26 {
		ranked = append(ranked, string([]byte{byte('A' + i)}))
	}
	for i := range 26 {
		ranked = append(ranked, string([]byte{byte('a' + i)}))
	}
	for i := range 256 {
		if b := string([]byte{byte(i)}); !slices.Contains(ranked, b) && !strings.Contains("0123456789", b) {
			ranked = append(ranked, b)
		}
	}
	for i, a := range ranked {
		for k, b := range ranked {
			for _, behind := range []string{"", "0", "5"} {
				v, w := api.Version{Upstream: "1" + a + behind}, api.Version{Upstream: "1" + b + behind}
				want := sign(i - k)
				if a == "" || b == "" { // what stands behind is then a part of the number ahead
					want = policyOrder(v.Upstream, w.Upstream)
				}
				if d := debver.Order(v, w); d != want {
					t.Fatalf("Order(%q, %q) = %d, want %d", v.Upstream, w.Upstream, d, want)
				}
			}
		}
	}
}

func TestOrderOfLongNumbers(t *testing.T) { // P1.2: runs of digits as numbers, however long
	var numbers []string
	for _, n := range []int{1, 2, 9, 10, 19, 20, 39, 100, 254} {
		for _, s := range []string{strings.Repeat("9", n), strings.Repeat("0", n), "1" + strings.Repeat("0", n-1), strings.Repeat("0", n-1) + "7"} {
			numbers = append(numbers, s)
		}
	}
	for _, a := range numbers {
		for _, b := range numbers {
			x, _ := new(big.Int).SetString(a, 10)
			y, _ := new(big.Int).SetString(b, 10)
			want := x.Cmp(y)
			for _, pair := range [][2]string{{a, b}, {a + ":1", b + ":1"}, {"1-" + a, "1-" + b}} {
				if d, e := debver.Compare(pair[0], pair[1]); d != want || e != api.OK {
					t.Errorf("Compare(%q, %q) = %d, %d; want %d", pair[0], pair[1], d, e, want)
				}
			}
		}
	}
}

func TestOrderOfUncheckedParts(t *testing.T) { // P1.2: the parts count as they stand
	for _, c := range []struct {
		a, b api.Version
		want int
	}{
		{api.Version{}, api.Version{}, 0},
		{api.Version{Epoch: "1"}, api.Version{Upstream: "9"}, 1},
		{api.Version{Revision: "1"}, api.Version{Revised: true, Colon: true}, 1},
		{api.Version{Epoch: "1a2"}, api.Version{Epoch: "12", Colon: true}, 0},
		{api.Version{Epoch: "1a2"}, api.Version{Epoch: "3"}, 1},
		{api.Version{Epoch: "a-\xff~"}, api.Version{Epoch: "000"}, 0},
		{api.Version{Epoch: "\xc31é0"}, api.Version{Epoch: "9"}, 1},
		{api.Version{Epoch: "~1"}, api.Version{}, 1},
		{api.Version{Upstream: "1_"}, api.Version{Upstream: "1a"}, 1},
		{api.Version{Upstream: "é"}, api.Version{Upstream: "z"}, 1},
		{api.Version{Upstream: "1", Revision: "~"}, api.Version{Upstream: "1"}, -1},
		{api.Version{Upstream: "a"}, api.Version{Upstream: "1"}, 1},
		{api.Version{Upstream: "~"}, api.Version{}, -1},
	} {
		if d := debver.Order(c.a, c.b); d != c.want {
			t.Errorf("Order(%#v, %#v) = %d, want %d", c.a, c.b, d, c.want)
		}
		if d := debver.Order(c.b, c.a); d != -c.want {
			t.Errorf("Order(%#v, %#v) = %d, want %d", c.b, c.a, d, -c.want)
		}
	}
}

func TestOrderPartsByTheirWeight(t *testing.T) { // P1.2: the epoch, then upstream, then the revision
	parts := []string{"0", "1", "2"}
	var rising []api.Version
	for _, e := range parts {
		for _, u := range parts {
			for _, r := range parts {
				rising = append(rising, api.Version{Epoch: e, Upstream: u, Revision: r, Colon: true, Revised: true})
			}
		}
	}
	for i, v := range rising {
		for k, w := range rising {
			if d := debver.Order(v, w); d != sign(i-k) {
				t.Errorf("Order(%+v, %+v) = %d", v, w, d)
			}
		}
	}
}

func TestOrderOfVeryLongParts(t *testing.T) { // DOC.md: Total
	long := strings.Repeat("a1~", 1<<19)
	v := api.Version{Epoch: long, Upstream: long, Revision: long}
	w := api.Version{Epoch: long, Upstream: long, Revision: long + "~"}
	if d, f := debver.Order(v, v), debver.Order(w, v); d != 0 || f != -1 {
		t.Errorf("%d, %d", d, f)
	}
	if l := debver.Segments(long); len(l) != 1<<20+1 || l[len(l)-1] != "~" {
		t.Errorf("%d runs", len(l))
	}
}

func TestSegments(t *testing.T) { // P1.5, example 5
	for _, c := range []struct {
		part string
		want []string
	}{
		{"", nil}, {"~", []string{"~"}}, {"12", []string{"", "12"}}, {"a", []string{"a"}}, {"a1", []string{"a", "1"}},
		{"1.2a", []string{"", "1", ".", "2", "a"}}, {"007~é9", []string{"", "007", "~é", "9"}}, {"\x00\xff", []string{"\x00\xff"}},
	} {
		if l := debver.Segments(c.part); !slices.Equal(l, c.want) {
			t.Errorf("Segments(%q) = %q, want %q", c.part, l, c.want)
		}
	}
	for _, part := range samples.Texts(strings.Split("09a~", ""), 6) {
		list := debver.Segments(part)
		if strings.Join(list, "") != part {
			t.Fatalf("Segments(%q) = %q", part, list)
		}
		for i, run := range list {
			kind := "a~"
			if i%2 == 1 {
				kind = "09"
			}
			if strings.Trim(run, kind) != "" || run == "" && (i > 0 || len(list) == 1) {
				t.Fatalf("Segments(%q) = %q", part, list)
			}
		}
	}
}

func TestSegmentsAreNew(t *testing.T) { // DOC.md: Memory
	first, second := debver.Segments("1.2"), debver.Segments("1.2")
	first[0] = "x"
	if _ = append(first[:1], "y"); !slices.Equal(second, []string{"", "1", ".", "2"}) {
		t.Errorf("two answers share memory: %q", second)
	}
}

// mixedVersions are versions near to one another, many of them with neither ahead.
func mixedVersions() []string {
	var list []string
	for _, epoch := range []string{"", "0:", "00:", "1:", "01:"} {
		for _, upstream := range []string{"0", "1", "01", "1~", "1~0", "1a", "1a0", "1.", "1.0", "1.00", "1+", "2", "10", "1A", "99999999999999999999"} {
			for _, revision := range []string{"", "-0", "-00", "-~", "-1", "-a", "-0a"} {
				list = append(list, epoch+upstream+revision)
			}
		}
	}
	return list
}

func TestTotalPreorder(t *testing.T) { // P1.7, P0.13
	list := mixedVersions()
	table := make([][]int, len(list))
	for i, a := range list {
		for _, b := range list {
			d, e := debver.Compare(a, b)
			if e != api.OK || d < -1 || d > 1 {
				t.Fatalf("Compare(%q, %q) = %d, %d", a, b, d, e)
			}
			table[i] = append(table[i], d)
		}
	}
	for i := range list {
		if table[i][i] != 0 {
			t.Fatalf("Compare(%q) with itself is %d", list[i], table[i][i])
		}
		for k := range list {
			if table[i][k] != -table[k][i] {
				t.Fatalf("Compare(%q, %q) = %d, the other way %d", list[i], list[k], table[i][k], table[k][i])
			}
			if table[i][k] == 0 && !slices.Equal(table[i], table[k]) {
				t.Fatalf("%q and %q are not exchangeable", list[i], list[k])
			}
			for l := range list {
				if table[i][k] <= 0 && table[k][l] <= 0 && table[i][l] > 0 {
					t.Fatalf("%q, %q, %q go round", list[i], list[k], list[l])
				}
			}
		}
	}
}

func TestThereAndBack(t *testing.T) { // P1.8
	for _, s := range mixedVersions() {
		v, e := debver.Parse(s)
		back, f := debver.Text(v)
		again, g := debver.Parse(back)
		if e != api.OK || f != api.OK || g != api.OK || back != s || again != v {
			t.Errorf("%q: %+v, %d; %q, %d; %+v, %d", s, v, e, back, f, again, g)
		}
	}
}
