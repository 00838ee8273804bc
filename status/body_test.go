package status_test

import (
	"math/rand/v2"
	"strings"
	"testing"

	"larder/api"
	"larder/samples"
	"larder/status"
)

// holdRead holds what both ways of reading tell of bytes, and there and back where they are a body.
func holdRead(t *testing.T, body string, counts map[string]int) {
	t.Helper()
	commit, ok := commitIn(body)
	got, e := status.DecodeCommit([]byte(body))
	if ok != (e == api.OK) || !ok && e != api.ErrStaForm || told(got) != told(commit) {
		t.Fatalf("P16.1: DecodeCommit(%q) = %q, %d, want %q, %v", body, told(got), e, told(commit), ok)
	}
	if again, f := status.EncodeCommit(got); ok && (string(again) != body || f != api.OK) {
		t.Fatalf("P16.5: EncodeCommit = %q, %d, want %q", again, f, body)
	}
	counts["commit "+told(ok)]++
	state, ok := stateIn(body)
	back, e := status.Decode([]byte(body))
	if ok != (e == api.OK) || !ok && e != api.ErrStaForm || told(back) != told(state) {
		t.Fatalf("P16.1: Decode(%q) = %q, %d, want %q, %v", body, told(back), e, told(state), ok)
	}
	if again, f := status.Encode(back); ok && (string(again) != body || f != api.OK) {
		t.Fatalf("P16.5: Encode = %q, %d, want %q", again, f, body)
	}
	counts["state "+told(ok)]++
}

func someCommit() api.Commit {
	c := commitOf(258, 3, "aa bb", "aa 1 depends=bb|cc(>=2) files=x auto; cc 2 provides=dd essential", "dd ee")
	c.Steps = []api.Step{{Kind: 1, From: "n/258.0", To: "t/x"}, {Kind: 2, From: "t/y"}, {Kind: 255, From: "\x00", To: strings.Repeat("y", 258)}}
	return c
}

func someState() api.State {
	return api.State{Seq: 258, Group: 3, Held: heldOf("aa 1 depends=bb|cc(>=2) files=x auto; cc 2 provides=dd essential"), Before: heldOf("aa 0 files=x; bb 7"), Past: []api.Entry{
		{Seq: 257, Group: 3, Out: samples.Keys("aa=0 bb=7"), In: samples.Keys("aa=1")}, {Seq: 258, Group: 3, In: samples.Keys("cc=2")},
	}}
}

// bodies tells bodies to begin with.
func bodies() []string {
	return []string{
		stateBytes(api.State{}), commitBytes(api.Commit{Seq: 1, Group: 1}), stateBytes(someState()), commitBytes(someCommit()),
		commitBytes(commitOf(2, 2, "aa", "aa 1", "")), stateBytes(api.State{Seq: 2, Group: 1, Held: heldOf("aa 1"), Past: []api.Entry{{Seq: 2, Group: 1, In: samples.Keys("aa=1")}}}),
	}
}

// P16.1, P16.5: bodies cut off at every byte, with bytes behind, of the other kind.
func TestCut(t *testing.T) {
	t.Parallel()
	counts := map[string]int{}
	for _, body := range bodies() {
		holdRead(t, body, counts)
		for n := range len(body) {
			holdRead(t, body[:n], counts)
			holdRead(t, body[:n]+body[n+1:], counts)
			holdRead(t, body[:n]+"\x00"+body[n:], counts)
		}
		for _, more := range bodies() {
			holdRead(t, body+more, counts)
		}
		for kind := range 256 {
			holdRead(t, string([]byte{byte(kind)})+body[1:], counts)
		}
		holdRead(t, body+"\x00", counts)
		holdRead(t, body+"\x00\x00\x00\x00", counts)
	}
	if counts["commit true"] < 6 || counts["state true"] < 6 {
		t.Errorf("bodies that are some: %v", counts)
	}
}

// P16.1, P16.5: every byte changed, of short bodies into every other one.
func TestChangedBytes(t *testing.T) {
	t.Parallel()
	counts := map[string]int{}
	for _, body := range bodies() {
		for n := range len(body) {
			for b := range 256 {
				if x := body[n]; len(body) < 200 || b < 4 || b == 255 || byte(b) == x+1 || byte(b) == x-1 || byte(b) == x^0x20 {
					holdRead(t, body[:n]+string([]byte{byte(b)})+body[n+1:], counts)
				}
			}
		}
	}
	for what, n := range counts {
		if n < 500 {
			t.Errorf("only %d times %q", n, what)
		}
	}
}

// mixedList tells a list's bytes; now and then there are more or fewer things than it says.
func mixedList(r *rand.Rand, things ...string) string {
	n := r.IntN(4)
	text := le(uint64(n), 4)
	if r.IntN(20) == 0 {
		n += r.IntN(3) - 1
	}
	for range n {
		text += things[r.IntN(len(things))]
	}
	return text
}

// P16.1, P16.5: lists that rise and that do not, with things twice, of things that belong elsewhere.
func TestMixedBodies(t *testing.T) {
	t.Parallel()
	r := rand.New(rand.NewPCG(16, 1))
	names := []string{textOf("aa"), textOf("bb"), textOf("cc"), textOf("dd"), textOf("a")}
	held := []string{packageBytes(heldOf("aa 1 files=x")[0]), packageBytes(heldOf("bb 1 auto")[0]), packageBytes(heldOf("cc 2 files=x")[0]), "\x02" + textOf("Package: dd\nVersion: 1\n")}
	keys := []string{keyBytes(api.Key{Name: "aa", Version: "1"}), keyBytes(api.Key{Name: "bb", Version: "1"}), keyBytes(api.Key{Name: "cc", Version: "1"}), keyBytes(api.Key{Name: "dd", Version: ""})}
	steps := []string{stepBytes(api.Step{}), stepBytes(api.Step{Kind: 7, From: "from"}), stepBytes(api.Step{To: strings.Repeat("t", 259)})}
	counts := map[string]int{}
	for range 30000 {
		number := func() string { return le(uint64(r.IntN(3)), 8) }
		entry := func() string { return number() + number() + mixedList(r, keys...) + mixedList(r, keys...) }
		holdRead(t, "\x01"+number()+number()+mixedList(r, names...)+mixedList(r, held...)+mixedList(r, names...)+mixedList(r, steps...), counts)
		holdRead(t, "\x02"+number()+number()+mixedList(r, held...)+mixedList(r, held...)+mixedList(r, entry(), entry()), counts)
	}
	for what, n := range counts {
		if n < 200 {
			t.Errorf("the mixture has %q only %d times", what, n)
		}
	}
	if len(counts) != 4 {
		t.Errorf("the mixture has %v", counts)
	}
}

// P16.1: counts and lengths that are greater than the bytes there are.
func TestGreatCounts(t *testing.T) {
	t.Parallel()
	counts := map[string]int{}
	for _, n := range []uint64{1, 2, 255, 65536, 1 << 24, 1 << 28, 1 << 31, 1<<32 - 1} {
		for _, head := range []string{"\x01", "\x02"} {
			head += le(1, 8) + le(1, 8)
			for _, ahead := range []string{"", le(0, 4), le(0, 4) + le(0, 4), le(0, 4) + le(0, 4) + le(0, 4), le(1, 4), le(0, 4) + le(1, 4), le(1, 4) + "\x00", le(0, 4) + le(1, 4) + "\x01", le(0, 4) + le(0, 4) + le(1, 4) + le(1, 8) + le(1, 8), le(0, 4) + le(0, 4) + le(1, 4) + le(1, 8) + le(1, 8) + le(0, 4), le(0, 4) + le(0, 4) + le(0, 4) + le(1, 4) + "\x07"} {
				for _, behind := range []string{"", "aa", textOf("aa"), le(0, 4)} {
					holdRead(t, head+ahead+le(n, 4)+behind, counts)
				}
			}
		}
	}
	if counts["commit false"] < 600 || counts["state false"] < 600 {
		t.Errorf("%v", counts)
	}
}

// P16.1: numbers that no state and no commit may have.
func TestGreatNumbers(t *testing.T) {
	t.Parallel()
	counts := map[string]int{}
	numbers := []uint64{0, 1, 2, 3, api.MaxSeq - 1, api.MaxSeq, api.MaxSeq + 1, 1 << 62, 1<<63 - 1, 1 << 63, 1<<63 + 1, 1<<64 - 1}
	for _, seq := range numbers {
		for _, group := range numbers {
			holdRead(t, "\x01"+le(seq, 8)+le(group, 8)+strings.Repeat(le(0, 4), 4), counts)
			holdRead(t, "\x02"+le(seq, 8)+le(group, 8)+strings.Repeat(le(0, 4), 3), counts)
			for _, last := range numbers {
				holdRead(t, "\x02"+le(last, 8)+le(0, 8)+strings.Repeat(le(0, 4), 2)+le(1, 4)+le(seq, 8)+le(group, 8)+le(0, 4)+le(0, 4), counts)
			}
		}
	}
	if counts["commit true"] < 15 || counts["state true"] < 30 {
		t.Errorf("%v", counts)
	}
}

// P16.1: a package's text that says the same, but is not what is printed.
func TestOtherPrints(t *testing.T) {
	t.Parallel()
	counts := map[string]int{}
	for _, text := range []string{
		"Package: aa\nVersion: 1\n", "Package: aa\nVersion: 1", "Package:aa\nVersion: 1\n", "package: aa\nVersion: 1\n", "Version: 1\nPackage: aa\n", "Package: aa\nVersion: 1\n\n", "\nPackage: aa\nVersion: 1\n", "# x\nPackage: aa\nVersion: 1\n", "Package: aa\nVersion: 1\nEssential: no\n", "Package: aa\nVersion: 1\nEssential: yes\n", "Package: aa\nVersion: 1\nOther: x\n", "Package: aa\nVersion: 1\nDepends: bb|cc\n", "Package: aa\nVersion: 1\nDepends: bb | cc\n", "Package: aa\nVersion: 1\n\nPackage: bb\nVersion: 1\n", "Package: aa\nVersion: 1\n\nPackage: aa\nVersion: 1\n", "", "\n", "Package: aa\n", "Package: a\nVersion: 1\n", "x",
	} {
		for _, mark := range []string{"\x00", "\x01", "\x02", "\xff"} {
			one := le(1, 4) + mark + textOf(text)
			holdRead(t, "\x01"+le(1, 8)+le(1, 8)+le(0, 4)+one+le(0, 4)+le(0, 4), counts)
			holdRead(t, "\x02"+le(1, 8)+le(1, 8)+one+le(0, 4)+le(0, 4), counts)
			holdRead(t, "\x02"+le(1, 8)+le(1, 8)+le(0, 4)+one+le(0, 4), counts)
		}
	}
	if counts["commit true"] != 6 || counts["state true"] != 12 {
		t.Errorf("P16.1: %v", counts)
	}
}

// P16.1: bytes that are none of both, of all kinds.
func TestJunk(t *testing.T) {
	t.Parallel()
	counts := map[string]int{}
	for _, text := range samples.Texts([]string{"\x00", "\x01", "\x02", "\xff", "aa", le(0, 4)}, 5) {
		holdRead(t, text, counts)
	}
	if counts["commit true"]+counts["state true"] != 0 {
		t.Errorf("%v", counts)
	}
}
