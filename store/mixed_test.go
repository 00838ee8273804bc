package store_test

import (
	"math"
	"math/rand/v2"
	"slices"
	"strconv"
	"testing"

	"larder/api"
	"larder/samples"
	"larder/store"
)

// both is a store and its oracle, behind the same calls.
func both(t *testing.T, first []api.Blob, capacity int, list []call) (*store.Store, *oracle) {
	s, o := samples.Must(store.Load(first, capacity)), oracleOf(first, capacity)
	for i, c := range list {
		if got, want := c.on(s), o.do(c); got != want {
			t.Fatalf("%q, then %v: the last is answered %v, want %v", image(first), list[:i+1], got, want)
		}
	}
	return s, o
}

// P14.2 to P14.10: all scripts of few calls, with all choices of what a crash keeps behind them.
func TestSmall(t *testing.T) {
	t.Parallel()
	for _, c := range []struct {
		first    []api.Blob
		capacity int
		most     int
		calls    string
		numbers  []int
	}{
		{nil, 4, 3, "write a -; write a xy; write b zuv; append a pq; append b w; truncate a 1; rename a b; rename b a; remove a; sync; fuse 0; fuse 1; crash 1", []int{-1, 0, 1, 2, 3, 4}},
		{[]api.Blob{{Name: "a", Data: []byte("123")}, {Name: "b", Data: []byte("4")}}, 5, 3, "write a xy; write b -; append a pq; append b r; truncate a 1; truncate a 3; rename a b; rename b a; rename b c; remove a; remove b; sync; fuse 1", []int{0, 1, 2, 3, 4}},
		{[]api.Blob{{Name: "a", Data: []byte("12")}}, 9, 4, "write a xyz; append a pq; truncate a 1; rename a b; rename b a; remove a", []int{0, 1, 3}},
	} {
		for _, list := range samples.Lists(calls(c.calls), c.most) {
			s, o := both(t, c.first, c.capacity, list)
			hold(t, image(c.first), s, o)
			holdCrashes(t, c.first, c.capacity, list, samples.Lists(c.numbers, len(o.pending)))
		}
	}
}

func holdCrashes(t *testing.T, first []api.Blob, capacity int, list []call, choices [][]int) {
	for _, kept := range choices {
		s, o := both(t, first, capacity, append(list[:len(list):len(list)], call{kind: "crash", kept: kept}))
		if image(s.Image()) != images(o.seen) || image(s.Durable()) != images(o.seen) {
			t.Fatalf("P14.10: %q, then %v, Crash(%v): %q, durable %q, want %q", image(first), list, kept, image(s.Image()), image(s.Durable()), images(o.seen))
		}
	}
}

var mixedNames = []string{"a", "b", "ab", "t/a", "a", "b", "", "a b", "\x7f"}

func pick[T any](r *rand.Rand, list []T) T { return list[r.IntN(len(list))] }

func mixedBytes(r *rand.Rand) []byte {
	data := make([]byte, r.IntN(7))
	for i := range data {
		data[i] = byte('A' + r.IntN(26))
	}
	return data
}

func mixedCall(r *rand.Rand) call {
	c := call{name: pick(r, mixedNames), to: pick(r, mixedNames), data: mixedBytes(r), n: r.IntN(9) - 1}
	c.kind = pick(r, []string{"write", "write", "write", "append", "append", "append", "truncate", "truncate", "rename", "rename", "remove", "sync", "fuse", "capacity", "crash"})
	switch c.kind {
	case "fuse":
		c.n = pick(r, []int{math.MinInt, -1, 0, 1, 2, 5, 20, math.MaxInt})
	case "capacity":
		c.n = pick(r, []int{-1, 0, 3, 8, 16, 16, 1 << 30, 1<<30 + 1})
	case "crash":
		for range r.IntN(8) {
			c.kept = append(c.kept, pick(r, []int{math.MinInt, -1, 0, 1, 1, 1, 2, 3, 4, 9, math.MaxInt}))
		}
	}
	if c.kind != "write" && c.kind != "append" { // the oracle counts them as growth
		c.data = nil
	}
	return c
}

// P14.1 to P14.11: long mixed scripts, with all that the store tells held behind each call; each kind of call must have been done and refused in each of its ways.
func TestMixed(t *testing.T) {
	t.Parallel()
	r := rand.New(rand.NewPCG(14, 1))
	answered := map[string]int{}
	for range 3000 {
		s, o := samples.Must(store.New(12)), oracleOf(nil, 12)
		var list []call
		for range 50 {
			list = append(list, mixedCall(r))
			c := list[len(list)-1]
			got, want := c.on(s), o.do(c)
			if got != want {
				t.Fatalf("%v: the last is answered %v, want %v", list, got, want)
			}
			hold(t, c.kind, s, o)
			holdReading(t, c.kind, s, o)
			answered[c.kind+" "+strconv.Itoa(int(got))]++
		}
		holdLoaded(t, s)
	}
	for _, want := range []string{
		"write 0", "write 140", "write 142", "write 143",
		"append 0", "append 140", "append 141", "append 142", "append 143",
		"truncate 0", "truncate 1", "truncate 140", "truncate 141", "truncate 143",
		"rename 0", "rename 1", "rename 140", "rename 141", "rename 143",
		"remove 0", "remove 140", "remove 141", "remove 143",
		"sync 0", "sync 143", "capacity 0", "capacity 1", "crash 0",
	} {
		if answered[want] < 100 {
			t.Errorf("the mixture has %q only %d times", want, answered[want])
		}
	}
}

// P14.1, P14.11: Load of Image, and of Durable, gives a store whose Image and Durable are that.
func holdLoaded(t *testing.T, s *store.Store) {
	t.Helper()
	for _, first := range [][]api.Blob{s.Image(), s.Durable()} {
		again, e := store.Load(first, 0)
		if e != api.OK {
			t.Fatalf("P14.11: Load(%q): %v", image(first), e)
		}
		hold(t, "P14.11: loaded again", again, oracleOf(first, 0))
	}
}

// P14.11: with all operations kept whole a crash leaves what was seen, and the one at which the power went besides; behind Sync it leaves what is seen; what no pending operation names is the same all along.
func TestFollows(t *testing.T) {
	t.Parallel()
	r := rand.New(rand.NewPCG(14, 2))
	whole := slices.Repeat([]int{1}, 20)
	first := []api.Blob{{Name: "a", Data: []byte("12")}, {Name: "other", Data: []byte("stays")}, {Name: "t/a"}}
	midst := 0
	for range 8000 {
		s := samples.Must(store.Load(first, 30))
		for range r.IntN(15) {
			mixedOperation(r).on(s)
		}
		kept := whole
		if r.IntN(2) == 0 {
			s.Sync()
			kept = whole[:r.IntN(5)]
		}
		twin := samples.Must(store.Load(s.Image(), 30))
		if c := mixedOperation(r); r.IntN(2) == 0 && s.Pending() > 0 && c.on(twin) == api.OK {
			midst++
			s.Fuse(0)
			c.on(s)
		}
		s.Crash(api.Choice{Kept: kept})
		if want := image(twin.Image()); image(s.Image()) != want || image(s.Durable()) != want {
			t.Fatalf("P14.11: behind the crash %q, durable %q, want %q", image(s.Image()), image(s.Durable()), want)
		}
		if data, e := s.Read("other"); e != api.OK || string(data) != "stays" {
			t.Fatalf("P14.11: what nothing names: %q, %v", data, e)
		}
	}
	if midst < 500 {
		t.Errorf("the power went only %d times", midst)
	}
}

func mixedOperation(r *rand.Rand) call {
	for {
		switch c := mixedCall(r); c.kind {
		case "fuse", "capacity", "crash", "sync":
		default:
			return c
		}
	}
}
