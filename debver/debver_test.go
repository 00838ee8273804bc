package debver_test

import (
	"regexp"
	"slices"
	"strings"
	"testing"

	"larder/api"
	"larder/debver"
	"larder/samples"
)

func TestParseTakesApart(t *testing.T) { // P1.1, example 1
	for s, want := range map[string]api.Version{
		"0":         {Upstream: "0"},
		"1:2.3-4":   {Epoch: "1", Upstream: "2.3", Revision: "4", Colon: true, Revised: true},
		"1.0-rc-2":  {Upstream: "1.0-rc", Revision: "2", Revised: true},
		"2:1:0":     {Epoch: "2", Upstream: "1:0", Colon: true},
		"007:1":     {Epoch: "007", Upstream: "1", Colon: true},
		"1:2:3-4-5": {Epoch: "1", Upstream: "2:3-4", Revision: "5", Colon: true, Revised: true},
		"1Zz.+~-~":  {Upstream: "1Zz.+~", Revision: "~", Revised: true},
		"1--0":      {Upstream: "1-", Revision: "0", Revised: true},
	} {
		if v, e := debver.Parse(s); v != want || e != api.OK {
			t.Errorf("Parse(%q) = %+v, %d; want %+v", s, v, e, want)
		}
	}
}

func TestParseErrors(t *testing.T) { // P1.1, example 2; of several errors the first
	for _, c := range []struct {
		want  api.Errno
		texts []string
	}{
		{api.ErrVerLong, []string{strings.Repeat("1", 257), strings.Repeat(":", 257), "1:" + strings.Repeat("1", 255), "a_-" + strings.Repeat("-", 254)}},
		{api.ErrVerEmpty, []string{"", "1:", "-1", "-", ":", "a:", ":-", "a:-_", "1:-1", "1-2:"}},
		{api.ErrVerEpoch, []string{":1", "a:1", "1 :1", "1-2:3", "a:1-", ":a1-", "~:_", "1a2:1"}},
		{api.ErrVerRevision, []string{"1-", "a1-", "1--", "1:1-", "_-", "1:a:-"}},
		{api.ErrVerStart, []string{"a1", "~1", ".1", "_", " 1", "1:a", "1::", "--1", "a-1", "a_-_"}},
		{api.ErrVerByte, []string{"1_2", "1 ", "1\n", "1-2_", "1:2-3:4", "1\x00", "1é", "1-é", "1/2"}},
		{api.OK, []string{strings.Repeat("1", 256), "1:" + strings.Repeat("1", 254), strings.Repeat("9", 254) + ":0", "1-" + strings.Repeat("~", 254)}},
	} {
		for _, s := range c.texts {
			if v, e := debver.Parse(s); e != c.want || e != api.OK && v != (api.Version{}) {
				t.Errorf("Parse(%.40q) = %+v, %d; want %d", s, v, e, c.want)
			}
		}
	}
}

func TestParseEachByte(t *testing.T) { // P1.1: which bytes may stand where
	const digits = "0123456789"
	const common = digits + "ABCDEFGHIJKLMNOPQRSTUVWXYZabcdefghijklmnopqrstuvwxyz.+~"
	for i := range 256 {
		b := string([]byte{byte(i)})
		for _, c := range []struct {
			text, good string
			bad        api.Errno
		}{
			{b + "1:1", digits, api.ErrVerEpoch},
			{"1" + b + "1:1", digits, api.ErrVerEpoch},
			{b, digits, api.ErrVerStart},
			{"1" + b + "1", common, api.ErrVerByte},
			{"1:1" + b + "1", common, api.ErrVerByte},
			{"1" + b + "1-1", common, api.ErrVerByte},
			{"1:1-" + b + "1", common, api.ErrVerByte},
			{"1:1-1" + b, common, api.ErrVerByte},
		} {
			want := api.OK
			if !strings.Contains(c.good, b) {
				want = c.bad
			}
			_, e := debver.Parse(c.text)
			cuts := b == ":" || b == "-" // elsewhere than the row means: the grammar alone tells then
			if e != want && !cuts {
				t.Errorf("Parse(%q): %d, want %d", c.text, e, want)
			}
			if (e == api.OK) != grammar.MatchString(c.text) {
				t.Errorf("Parse(%q): %d, against the grammar", c.text, e)
			}
		}
	}
}

// grammar is the document's grammar, a line for each pair of an epoch or none and a revision or none.
var grammar = regexp.MustCompile(`\A(?:` +
	`[0-9][A-Za-z0-9.+~]*|` +
	`[0-9][A-Za-z0-9.+~-]*-[A-Za-z0-9.+~]+|` +
	`[0-9]+:[0-9][A-Za-z0-9.+~:]*|` +
	`[0-9]+:[0-9][A-Za-z0-9.+~:-]*-[A-Za-z0-9.+~]+` +
	`)\z`)

func TestParseSmallTexts(t *testing.T) { // P1.1, P1.8
	for _, s := range samples.Texts(strings.Split("0a~-:_", ""), 6) {
		v, e := debver.Parse(s)
		if (e == api.OK) != grammar.MatchString(s) {
			t.Fatalf("Parse(%q): %d, against the grammar", s, e)
		}
		if e != api.OK {
			if v != (api.Version{}) {
				t.Fatalf("Parse(%q) = %+v beside %d", s, v, e)
			}
			continue
		}
		if back, f := debver.Text(v); back != s || f != api.OK {
			t.Fatalf("Text(Parse(%q)) = %q, %d", s, back, f)
		}
	}
}

func TestCheckErrors(t *testing.T) { // P1.1
	long := strings.Repeat("1", 256)
	for _, c := range []struct {
		v    api.Version
		want api.Errno
	}{
		{api.Version{Epoch: "1", Upstream: "1"}, api.ErrArg},
		{api.Version{Upstream: "1", Revision: "1"}, api.ErrArg},
		{api.Version{Epoch: "a", Upstream: long + "_"}, api.ErrArg},
		{api.Version{Epoch: "1", Upstream: "1", Revision: "1", Revised: true}, api.ErrArg},
		{api.Version{Epoch: "1", Upstream: "1", Revision: "1", Colon: true}, api.ErrArg},
		{api.Version{}, api.ErrVerEmpty},
		{api.Version{Colon: true, Revised: true}, api.ErrVerEmpty},
		{api.Version{Upstream: "1", Colon: true}, api.ErrVerEpoch},
		{api.Version{Upstream: "1", Revised: true}, api.ErrVerRevision},
		{api.Version{Upstream: "1-"}, api.ErrVerRevision},
		{api.Version{Upstream: "a"}, api.ErrVerStart},
		{api.Version{Upstream: "1_"}, api.ErrVerByte},
		{api.Version{Upstream: "1-2"}, api.ErrVerByte},
		{api.Version{Upstream: "1:2"}, api.ErrVerByte},
		{api.Version{Upstream: "a:2"}, api.ErrVerEpoch},
		{api.Version{Epoch: "1:2", Upstream: "3", Colon: true}, api.ErrVerByte},
		{api.Version{Upstream: "1", Revision: "2-3", Revised: true}, api.ErrVerByte},
		{api.Version{Upstream: "1", Revision: "2:3", Revised: true}, api.ErrVerEpoch},
		{api.Version{Upstream: long}, api.OK},
		{api.Version{Upstream: long + "1"}, api.ErrVerLong},
		{api.Version{Upstream: long, Colon: true}, api.ErrVerLong},
		{api.Version{Upstream: long, Revised: true}, api.ErrVerLong},
		{api.Version{Epoch: "1", Upstream: long[:252], Revision: "1", Colon: true, Revised: true}, api.OK},
		{api.Version{Epoch: "1", Upstream: long[:253], Revision: "1", Colon: true, Revised: true}, api.ErrVerLong},
	} {
		if e := debver.Check(c.v); e != c.want {
			t.Errorf("Check(%+v) = %d, want %d", c.v, e, c.want)
		}
		s, e := debver.Text(c.v)
		if e != c.want || (s == "") != (e != api.OK) {
			t.Errorf("Text(%+v) = %q, %d, want %d", c.v, s, e, c.want)
		}
	}
}

func TestCheckTakesJustWhatParseMakes(t *testing.T) { // P1.1, P1.8
	made := map[api.Version]string{}
	for _, s := range samples.Texts(strings.Split("0-:_", ""), 8) {
		if v, e := debver.Parse(s); e == api.OK {
			made[v] = s
		}
	}
	parts := samples.Texts(strings.Split("0-:_", ""), 2)
	for _, epoch := range parts {
		for _, upstream := range parts {
			for _, revision := range parts {
				for flags := range 4 {
					v := api.Version{Epoch: epoch, Upstream: upstream, Revision: revision, Colon: flags&1 != 0, Revised: flags&2 != 0}
					s, e := debver.Text(v)
					if want, ok := made[v]; s != want || ok != (e == api.OK) || e != debver.Check(v) {
						t.Fatalf("Text(%+v) = %q, %d; Check %d", v, s, e, debver.Check(v))
					}
					if back, f := debver.Parse(s); e == api.OK && (back != v || f != api.OK) {
						t.Fatalf("Parse(Text(%+v)) = %+v, %d", v, back, f)
					}
				}
			}
		}
	}
}

func TestCompareErrors(t *testing.T) { // P1.3
	for _, c := range []struct {
		a, b string
		want api.Errno
	}{
		{"", "a", api.ErrVerEmpty}, {"a", "", api.ErrVerStart}, {"1", "1-", api.ErrVerRevision}, {"2", "1_", api.ErrVerByte},
		{":1", "1", api.ErrVerEpoch}, {"1", strings.Repeat("1", 257), api.ErrVerLong}, {strings.Repeat("1", 256), "1", api.OK},
	} {
		d, e := debver.Compare(c.a, c.b)
		if e != c.want || e != api.OK && d != 0 {
			t.Errorf("Compare(%.20q, %.20q) = %d, %d, want %d", c.a, c.b, d, e, c.want)
		}
	}
}

func TestFits(t *testing.T) { // P1.4: each operator against a lesser, an equal, a greater version
	takes := [6][3]bool{
		api.OpAny: {true, true, true}, api.OpLess: {true, false, false}, api.OpAtMost: {true, true, false},
		api.OpEqual: {false, true, false}, api.OpAtLeast: {false, true, true}, api.OpMore: {false, false, true},
	}
	for op, row := range takes {
		for i, s := range []string{"1.0~", "1.00-0", "1.0+"} {
			if is, e := debver.Fits(s, op, "1.0"); is != row[i] || e != api.OK {
				t.Errorf("Fits(%q, %d, 1.0) = %v, %d", s, op, is, e)
			}
		}
	}
}

func TestFitsErrors(t *testing.T) { // P1.4, example 4
	for _, c := range []struct {
		version string
		op      int
		bound   string
		is      bool
		want    api.Errno
	}{
		{"1.0", 6, "1", false, api.ErrArg}, {"1.0", -1, "1", false, api.ErrArg}, {"", 6, "", false, api.ErrArg},
		{"1", -1 << 63, "1", false, api.ErrArg}, {"1", 1<<63 - 1, "1", false, api.ErrArg},
		{"", api.OpAny, "1", false, api.ErrVerEmpty}, {"a", api.OpAtLeast, "", false, api.ErrVerStart},
		{"1.0", api.OpAny, "!", true, api.OK}, {"1.0", api.OpAny, "", true, api.OK}, {"1.0", api.OpAny, strings.Repeat("1", 257), true, api.OK},
		{"1.0", api.OpMore, "", false, api.ErrVerEmpty}, {"1", api.OpLess, "1-", false, api.ErrVerRevision},
		{"1", api.OpAtMost, "!", false, api.ErrVerStart}, {"1", api.OpEqual, strings.Repeat("1", 257), false, api.ErrVerLong},
	} {
		if is, e := debver.Fits(c.version, c.op, c.bound); is != c.is || e != c.want {
			t.Errorf("Fits(%q, %d, %.20q) = %v, %d; want %v, %d", c.version, c.op, c.bound, is, e, c.is, c.want)
		}
	}
}

func TestSort(t *testing.T) { // P1.6, example 5
	for _, c := range []struct {
		list []string
		want []int
		e    api.Errno
	}{
		{nil, nil, api.OK},
		{[]string{"1"}, []int{0}, api.OK},
		{[]string{"2", "1", "1.0-0", "1"}, []int{1, 3, 2, 0}, api.OK},
		{[]string{"1:0", "10", "9", "1.0~", "1.0"}, []int{3, 4, 2, 1, 0}, api.OK},
		{[]string{"1-0", "0:1", "1", "01", "0"}, []int{4, 0, 1, 2, 3}, api.OK},
		{[]string{"2", "x", ""}, nil, api.ErrVerStart},
		{[]string{"2", "", "x"}, nil, api.ErrVerEmpty},
		{[]string{"1-", "2"}, nil, api.ErrVerRevision},
	} {
		if places, e := debver.Sort(c.list); !slices.Equal(places, c.want) || e != c.e {
			t.Errorf("Sort(%q) = %v, %d; want %v, %d", c.list, places, e, c.want, c.e)
		}
	}
}

func TestSortManyTies(t *testing.T) { // P1.6: a list long enough for any way of sorting to mix ties up
	var list []string
	for i := range 3000 {
		list = append(list, strings.Repeat("0", i%7)+[]string{"2", "1-0", "1~", "1", "10"}[i%5])
	}
	places, e := debver.Sort(list)
	if len(places) != len(list) || e != api.OK {
		t.Fatalf("%d places, %d", len(places), e)
	}
	for i := 1; i < len(places); i++ {
		p, q := places[i-1], places[i]
		if d, _ := debver.Compare(list[p], list[q]); d > 0 || d == 0 && p >= q {
			t.Fatalf("%q of place %d is told ahead of %q of place %d", list[p], p, list[q], q)
		}
	}
}

func TestSortLeavesTheListAlone(t *testing.T) { // DOC.md: Memory
	room := []string{"3", "1", "2", "spare", "room"}
	kept := slices.Clone(room)
	first, _ := debver.Sort(room[:3])
	second, _ := debver.Sort(room[:3])
	if !slices.Equal(room, kept) {
		t.Errorf("the list has become %q", room)
	}
	first[0] = 99
	if _ = append(first[:1], 98); !slices.Equal(second, []int{1, 2, 0}) {
		t.Errorf("two answers share memory: %v", second)
	}
}
