package journal_test

import (
	"fmt"
	"math/rand/v2"
	"testing"

	"larder/api"
	"larder/journal"
	"larder/samples"
	"larder/store"
)

// call is a call of a journal, or one of its store that is followed by Open where it changes the file.
type call struct {
	kind string
	body string
	n    int
	kept []int
}

func (c call) String() string { return fmt.Sprintf("%s %q %d %v", c.kind, c.body, c.n, c.kept) }

// pair is a journal and the oracle, each over a store of its own.
type pair struct {
	disk *store.Store
	j    *journal.Journal
	o    *oracle
}

func pairOf(data string, capacity int) *pair {
	var first []api.Blob
	if data != "none" {
		first = []api.Blob{{Name: file, Data: []byte(data)}}
	}
	p := &pair{disk: samples.Must(store.Load(first, capacity)), o: &oracle{disk: samples.Must(store.Load(first, capacity))}}
	p.open()
	return p
}

// open opens the journal anew; where that fails the old one stays.
func (p *pair) open() (got, want api.Errno) {
	j, e := journal.Open(p.disk, file)
	if e == api.OK {
		p.j = j
	}
	return e, p.o.open()
}

// do makes a call on both.
func (p *pair) do(c call) (got, want api.Errno) {
	switch c.kind {
	case "open":
		return p.open()
	case "cut":
		return p.j.Cut(), p.o.cut()
	case "append":
		return p.j.Append([]byte(c.body)), p.o.add(c.body)
	case "sync":
		return p.j.Sync(), p.o.disk.Sync()
	case "reset":
		return p.j.Reset(), p.o.reset()
	}
	for _, s := range []*store.Store{p.disk, p.o.disk} {
		switch c.kind {
		case "fuse":
			s.Fuse(c.n)
		case "capacity":
			s.SetCapacity(c.n)
		case "other":
			s.Write("other", []byte(c.body))
		case "tear":
			if s.Append(file, []byte(c.body)) == api.ErrStoNone {
				s.Write(file, []byte(c.body))
			}
		case "crash":
			s.Crash(api.Choice{Kept: c.kept})
		}
	}
	if c.kind == "tear" || c.kind == "crash" {
		return p.open()
	}
	return api.OK, api.OK
}

// holdScript makes calls on both and holds all that is answered and told.
func holdScript(t *testing.T, p *pair, list []call, answered map[string]int) {
	t.Helper()
	for i, c := range list {
		got, want := p.do(c)
		if got != want {
			t.Fatalf("P15.3: %v: the last is answered %v, want %v", list[:i+1], got, want)
		}
		if a, b := toldBy(p.disk), toldBy(p.o.disk); a != b {
			t.Fatalf("P15.3: %v: the store is %v, want %v", list[:i+1], a, b)
		}
		holdTold(t, fmt.Sprint("P15.3: ", list[:i+1]), p.j, p.o.bodies, p.o.torn)
		answered[fmt.Sprint(c.kind, " ", int(got))]++
	}
}

// P15.2, P15.3: all scripts of few calls.
func TestSmall(t *testing.T) {
	t.Parallel()
	items := []call{
		{kind: "open"}, {kind: "cut"}, {kind: "append"}, {kind: "append", body: "xyz"}, {kind: "sync"}, {kind: "reset"},
		{kind: "fuse", n: 0}, {kind: "fuse", n: 1}, {kind: "crash", kept: []int{1, 9}}, {kind: "tear", body: frameOf("ab")[:15]},
	}
	answered := map[string]int{}
	for _, list := range samples.Lists(items, 4) {
		for _, data := range []string{"none", "", framesOf("1", ""), framesOf("1") + "torn"} {
			holdScript(t, pairOf(data, 60), list, answered)
		}
	}
}

func mixedCall(r *rand.Rand) call {
	kinds := []string{"open", "cut", "cut", "append", "append", "append", "append", "sync", "sync", "reset", "fuse", "fuse", "capacity", "other", "tear", "crash", "crash"}
	c := call{kind: kinds[r.IntN(len(kinds))]}
	switch c.kind {
	case "append", "other":
		c.body = mixedText(r, r.IntN(12))
	case "fuse":
		c.n = r.IntN(6) - 1
	case "capacity":
		c.n = []int{0, 30, 90, 200, 200}[r.IntN(5)]
	case "tear":
		body := mixedText(r, r.IntN(8))
		c.body = []string{body, frameOf(body), frameOf(body)[:r.IntN(len(body)+16)], ""}[r.IntN(4)]
	case "crash":
		for range r.IntN(6) {
			c.kept = append(c.kept, []int{-1, 0, 1, 1, 1, 2 + r.IntN(24)}[r.IntN(6)])
		}
	}
	return c
}

// P15.2, P15.3: long mixed scripts; each call must have gone well and been refused in each of its ways.
func TestMixed(t *testing.T) {
	t.Parallel()
	r := rand.New(rand.NewPCG(15, 6))
	answered := map[string]int{}
	for range 3000 {
		var list []call
		for range 30 {
			list = append(list, mixedCall(r))
		}
		holdScript(t, pairOf([]string{"none", "", framesOf("1", "2"), framesOf("1") + "torn"}[r.IntN(4)], 200), list, answered)
	}
	for _, want := range []string{"open 0", "open 143", "cut 0", "cut 143", "append 0", "append 142", "append 143", "append 151", "sync 0", "sync 143", "reset 0", "reset 143"} {
		if answered[want] < 300 {
			t.Errorf("the mixture has %q only %d times", want, answered[want])
		}
	}
}
