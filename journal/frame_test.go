package journal_test

import (
	"bytes"
	"hash/crc32"
	"math/rand/v2"
	"slices"
	"strings"
	"testing"

	"larder/api"
	"larder/journal"
	"larder/samples"
)

func mixedText(r *rand.Rand, n int) string {
	data := make([]byte, n)
	for i := range data {
		data[i] = byte(r.Uint32())
	}
	return string(data)
}

// P15.1: sums that others tell of these texts.
func TestCheckOfKnownTexts(t *testing.T) {
	t.Parallel()
	rising := make([]byte, 32)
	for i := range rising {
		rising[i] = byte(i)
	}
	falling := slices.Clone(rising)
	slices.Reverse(falling)
	for _, c := range []struct {
		data []byte
		want uint32
	}{
		{nil, 0},
		{[]byte{}, 0},
		{[]byte("a"), 0xc1d04330},
		{[]byte("123456789"), 0xe3069283},
		{make([]byte, 32), 0x8a9136aa},
		{bytes.Repeat([]byte{0xff}, 32), 0x62a8ab43},
		{rising, 0x46dd794e},
		{falling, 0x113fdb5c},
	} {
		if got := journal.Check(c.data); got != c.want {
			t.Errorf("P15.1: Check(%q) = %08x, want %08x", c.data, got, c.want)
		}
	}
}

// P15.1: all texts of at most two bytes, mixed ones, a long one.
func TestCheck(t *testing.T) {
	t.Parallel()
	var list []string
	for a := range 256 {
		list = append(list, string([]byte{byte(a)}))
		for b := range 256 {
			list = append(list, string([]byte{byte(a), byte(b)}))
		}
	}
	r := rand.New(rand.NewPCG(15, 1))
	for n := range 300 {
		list = append(list, mixedText(r, n))
	}
	list = append(list, mixedText(r, 1<<20))
	for _, data := range list {
		got := journal.Check([]byte(data))
		if want := sum(data); got != want {
			t.Fatalf("P15.1: Check(%.20q) = %08x, want %08x", data, got, want)
		}
		if want := crc32.Checksum([]byte(data), crc32.MakeTable(crc32.Castagnoli)); got != want {
			t.Fatalf("P15.1: Check(%.20q) = %08x, the library tells %08x", data, got, want)
		}
	}
}

func TestEncode(t *testing.T) {
	t.Parallel()
	for _, c := range []struct{ body, want string }{
		{"", "LAR\x01\x00\x00\x00\x00" + number(sum("LAR\x01\x00\x00\x00\x00")) + "\x00\x00\x00\x00"},
		{"a", "LAR\x01\x01\x00\x00\x00" + number(sum("LAR\x01\x01\x00\x00\x00")) + "a\x30\x43\xd0\xc1"},
		{"123456789", "LAR\x01\x09\x00\x00\x00" + number(sum("LAR\x01\x09\x00\x00\x00")) + "123456789\x83\x92\x06\xe3"},
		{strings.Repeat("x", 0x10203), "LAR\x01\x03\x02\x01\x00" + number(sum("LAR\x01\x03\x02\x01\x00")) + strings.Repeat("x", 0x10203) + number(sum(strings.Repeat("x", 0x10203)))},
	} {
		frame, e := journal.Encode([]byte(c.body))
		if string(frame) != c.want || e != api.OK {
			t.Errorf("P15.1: Encode(%.20q) = %.60q, %v, want %.60q", c.body, frame, e, c.want)
		}
		if bodies, whole := journal.Decode(frame); len(bodies) != 1 || string(bodies[0]) != c.body || whole != len(frame) {
			t.Errorf("P15.1: Decode(Encode(%.20q)): %d bodies, %d", c.body, len(bodies), whole)
		}
	}
	if frame, e := journal.Encode(nil); len(frame) != 16 || e != api.OK {
		t.Errorf("P15.1: the frame of no bytes: %q, %v", frame, e)
	}
	r := rand.New(rand.NewPCG(15, 2))
	for n := range 700 {
		body := mixedText(r, n)
		if frame, e := journal.Encode([]byte(body)); string(frame) != frameOf(body) || e != api.OK {
			t.Fatalf("P15.1: Encode(%q) = %q, %v", body, frame, e)
		}
	}
}

// holdDecode holds Decode against a whole part.
func holdDecode(t *testing.T, what, data string, bodies []string, whole int) {
	t.Helper()
	got, n := journal.Decode([]byte(data))
	if !slices.Equal(texts(got), bodies) || n != whole {
		t.Fatalf("%s: Decode(%q) = %q, %d, want %q, %d", what, data, got, n, bodies, whole)
	}
}

func TestDecode(t *testing.T) {
	t.Parallel()
	one, two, none := frameOf("one"), frameOf("two!"), frameOf("")
	for _, c := range []struct {
		why, data string
		bodies    []string
		whole     int
	}{
		{"nothing", "", nil, 0},
		{"a byte", "L", nil, 0},
		{"the magic alone", "LAR\x01", nil, 0},
		{"zero bytes", strings.Repeat("\x00", 64), nil, 0},
		{"one frame", one, []string{"one"}, 19},
		{"frames of nothing", none + none + none, []string{"", "", ""}, 48},
		{"several", one + none + two + one, []string{"one", "", "two!", "one"}, 74},
		{"a byte ahead", "x" + one, nil, 0},
		{"a zero ahead", "\x00" + one, nil, 0},
		{"a head ahead", head(3) + one, nil, 0},
		{"a byte between", one + "x" + two, []string{"one"}, 19},
		{"a part of the magic between", one + "LAR" + two, []string{"one"}, 19},
		{"a head of 0 between", one + head(0) + two, []string{"one"}, 19},
		{"a byte behind", one + two + "x", []string{"one", "two!"}, 39},
		{"a zero behind", one + none + "\x00", []string{"one", ""}, 35},
		{"zeros behind", one + strings.Repeat("\x00", 40), []string{"one"}, 19},
		{"a torn frame between", one + two[:11] + one, []string{"one"}, 19},
		{"a frame within a body", frameOf(one), []string{one}, 35},
		{"a torn frame that has a whole one in its body", frameOf(one)[:34], nil, 0},
		{"a frame in a frame's place, too long by one", head(4) + "one" + number(sum("one")), nil, 0},
		{"too short by one", head(2) + "one" + number(sum("one")), nil, 0},
		{"the sum of another body", head(3) + "one" + number(sum("two")), nil, 0},
		{"another magic, with its sum", "LAR\x02\x00\x00\x00\x00" + number(sum("LAR\x02\x00\x00\x00\x00")) + "\x00\x00\x00\x00", nil, 0},
		{"another magic, with the right one's sum", "lAR\x01" + one[4:], nil, 0},
		{"numbers the other way about", "LAR\x01\x00\x00\x00\x03" + number(sum("LAR\x01\x00\x00\x00\x03")) + "one" + number(sum("one")), nil, 0},
		{"example 2", one + two[:15], []string{"one"}, 19},
	} {
		holdDecode(t, "P15.1: "+c.why, c.data, c.bodies, c.whole)
	}
}

// P15.1: a length in a head, with the right sum, that is more than MaxFrame or than the bytes there are.
func TestLengths(t *testing.T) {
	t.Parallel()
	for _, n := range []uint32{1, 2, 4, 100, api.MaxFrame - 1, api.MaxFrame, api.MaxFrame + 1, 1<<31 - 17, 1<<31 - 1, 1 << 31, 1<<31 + 1, 1<<32 - 16, 1<<32 - 12, 1<<32 - 4, 1<<32 - 1} {
		for _, rest := range []string{"", "\x00\x00\x00", "\x00\x00\x00\x00", strings.Repeat("\x00", 40), frameOf("ab")} {
			holdDecode(t, "P15.1: a length", head(n)+rest, nil, 0)
			holdDecode(t, "P15.1: a length behind a frame", frameOf("ab")+head(n)+rest, []string{"ab"}, 18)
		}
	}
}

// P15.1: frames cut off at every byte, with nothing behind or with bytes that are none.
func TestCutOff(t *testing.T) {
	t.Parallel()
	for _, list := range samples.Lists([]string{"", "a", "xyz", frameOf("in it")}, 3) {
		data := framesOf(list...)
		for n := range len(data) + 1 {
			var bodies []string
			whole := 0
			for _, body := range list {
				if end := whole + 16 + len(body); end <= n {
					bodies, whole = append(bodies, body), end
				} else {
					break
				}
			}
			holdDecode(t, "P15.1: cut off", data[:n], bodies, whole)
			if n > whole {
				holdDecode(t, "P15.1: cut off, more behind", data[:n]+"\xff"+data, bodies, whole)
			}
		}
	}
}

// P15.1: any bytes, held against the words: pieces of frames in all rows of few, mixed ones in long rows.
func TestAnyBytes(t *testing.T) {
	t.Parallel()
	pieces := []string{"", "\x00", "LAR\x01", head(0), head(1), head(4), number(0), number(sum("a")), "a", frameOf("a"), frameOf("")}
	found := map[int]int{}
	hold := func(data string) {
		bodies, whole := wholePart(data)
		found[len(bodies)]++
		holdDecode(t, "P15.1: any bytes", data, bodies, whole)
	}
	for _, data := range samples.Texts(pieces, 4) {
		hold(data)
	}
	r := rand.New(rand.NewPCG(15, 3))
	for range 20000 {
		data := ""
		for range r.IntN(5) {
			data += frameOf(mixedText(r, r.IntN(6)))
		}
		for range r.IntN(4) {
			data += pieces[r.IntN(len(pieces))]
		}
		if raw := []byte(data); len(raw) > 0 && r.IntN(3) == 0 {
			raw[r.IntN(len(raw))] ^= 1 << r.IntN(8)
			data = string(raw)
		}
		hold(data + mixedText(r, r.IntN(20)))
	}
	for n := range 5 {
		if found[n] < 100 {
			t.Errorf("only %d texts of %d frames", found[n], n)
		}
	}
}

// part is a part of a frame in which P15.5 lets bytes be changed.
type part struct{ from, to int }

func partsOf(at int, body string) []part {
	end := at + 12 + len(body)
	return []part{{at, at + 8}, {at + 8, at + 12}, {at + 12, end}, {end, end + 4}}
}

// P15.5: one to four bytes, one behind the other, all in one part of a frame, are other ones.
func TestChanged(t *testing.T) {
	t.Parallel()
	r := rand.New(rand.NewPCG(15, 4))
	for _, list := range [][]string{{""}, {"a"}, {"abcde", "", "xyz"}, {"", "ab"}, {"\x00\x00\x00\x00\x00\x00"}, {mixedText(r, 40), frameOf("in it"), ""}} {
		data := framesOf(list...)
		at := 0
		for i, body := range list {
			for _, p := range partsOf(at, body) {
				changes(r, []byte(data), p, func(changed []byte) {
					holdDecode(t, "P15.5", string(changed), list[:i], at)
				})
			}
			at += 16 + len(body)
		}
	}
}

// changes hands on some bytes with each single byte of a part turned to each other value, with all small turns of two of them, and with mixed turns of two to four.
func changes(r *rand.Rand, data []byte, p part, hold func([]byte)) {
	turn := func(from int, by ...byte) {
		if from+len(by) > p.to || bytes.Count(by, []byte{0}) == len(by) {
			return
		}
		changed := bytes.Clone(data)
		for i, b := range by {
			changed[from+i] ^= b
		}
		hold(changed)
	}
	for from := p.from; from < p.to; from++ {
		for b := range 256 {
			turn(from, byte(b))
		}
		for a := range 16 {
			for b := range 16 {
				turn(from, byte(a), byte(b))
			}
		}
		for range 200 {
			turn(from, byte(r.Uint32()), byte(r.Uint32()))
			turn(from, byte(r.Uint32()), byte(r.Uint32()), byte(r.Uint32()))
			turn(from, byte(r.Uint32()), byte(r.Uint32()), byte(r.Uint32()), byte(r.Uint32()))
		}
	}
}
