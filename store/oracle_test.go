package store_test

import (
	"maps"
	"slices"
	"strconv"
	"strings"
	"testing"

	"larder/api"
	"larder/samples"
	"larder/store"
)

// call is a call that changes a store, or may.
type call struct {
	kind, name, to string
	data           []byte
	n              int
	kept           []int
}

// calls reads calls that stand with "; " between them: "write a xyz; append a -; truncate a 1; rename a b; remove b; sync; fuse 1; capacity 9; crash 1 0 5". A name or bytes "-" are none.
func calls(text string) []call {
	var list []call
	for _, part := range samples.Parts(text) {
		list = append(list, read(strings.Fields(part)))
	}
	return list
}

func read(words []string) call {
	c := call{kind: words[0]}
	switch c.kind {
	case "write", "append":
		c.name, c.data = word(words[1]), []byte(word(words[2]))
	case "truncate":
		c.name, c.n = word(words[1]), number(words[2])
	case "rename":
		c.name, c.to = word(words[1]), word(words[2])
	case "remove":
		c.name = word(words[1])
	case "fuse", "capacity":
		c.n = number(words[1])
	case "crash":
		for _, w := range words[1:] {
			c.kept = append(c.kept, number(w))
		}
	}
	return c
}

func word(w string) string {
	if w == "-" {
		return ""
	}
	return w
}

func number(w string) int {
	n, err := strconv.Atoi(w)
	if err != nil {
		panic(err)
	}
	return n
}

// on makes the call on a store.
func (c call) on(s *store.Store) api.Errno {
	switch c.kind {
	case "write":
		return s.Write(c.name, c.data)
	case "append":
		return s.Append(c.name, c.data)
	case "truncate":
		return s.Truncate(c.name, c.n)
	case "rename":
		return s.Rename(c.name, c.to)
	case "remove":
		return s.Remove(c.name)
	case "sync":
		return s.Sync()
	case "fuse":
		s.Fuse(c.n)
		return api.OK
	case "capacity":
		return s.SetCapacity(c.n)
	case "crash":
		return s.Crash(api.Choice{Kept: c.kept})
	}
	panic(c.kind)
}

// oracle is a store as the chapter's words tell it: two directories, each changed on its own.
type oracle struct {
	seen, durable   map[string]string
	pending         []call
	capacity, calls int
	fuse            int // below 0: none
	dead            bool
}

func oracleOf(image []api.Blob, capacity int) *oracle {
	o := &oracle{seen: map[string]string{}, durable: map[string]string{}, capacity: capacity, fuse: -1}
	for _, b := range image {
		o.seen[b.Name], o.durable[b.Name] = string(b.Data), string(b.Data)
	}
	return o
}

func called(name string) bool {
	return len(name) >= 1 && len(name) <= 258 && strings.Trim(name, "!\"#$%&'()*+,-./0123456789:;<=>?@ABCDEFGHIJKLMNOPQRSTUVWXYZ[\\]^_`abcdefghijklmnopqrstuvwxyz{|}~") == ""
}

func (o *oracle) used() int {
	n := 0
	for _, data := range o.seen {
		n += len(data)
	}
	return n
}

// wrong tells why an operation is refused, though there is power.
func (o *oracle) wrong(c call) api.Errno {
	old, there := o.seen[c.name]
	then := o.used() + len(c.data)
	if c.kind == "write" {
		then -= len(old)
	}
	switch {
	case !called(c.name), c.kind == "rename" && !called(c.to):
		return api.ErrStoName
	case !there && c.kind != "write":
		return api.ErrStoNone
	case c.kind == "rename" && c.name == c.to:
		return api.ErrArg
	case c.kind == "truncate" && (c.n < 0 || c.n > len(old)):
		return api.ErrArg
	case then > o.capacity && then > o.used():
		return api.ErrStoFull
	}
	return api.OK
}

// change makes the changing call as P14.2 to P14.6 and P14.9 say.
func (o *oracle) change(c call) api.Errno {
	if o.dead {
		return api.ErrStoDead
	}
	if c.kind != "sync" {
		if e := o.wrong(c); e != api.OK {
			return e
		}
		o.pending = append(o.pending, c)
	}
	if o.fuse == 0 {
		o.dead = true
		return api.ErrStoDead
	}
	o.fuse = max(o.fuse, 0) - 1
	o.calls++
	switch c.kind {
	case "write":
		o.seen[c.name] = string(c.data)
	case "append":
		o.seen[c.name] += string(c.data)
	case "truncate":
		o.seen[c.name] = o.seen[c.name][:c.n]
	case "rename":
		o.seen[c.to] = o.seen[c.name]
		delete(o.seen, c.name)
	case "remove":
		delete(o.seen, c.name)
	case "sync":
		o.durable, o.pending = maps.Clone(o.seen), nil
	}
	return api.OK
}

// keep changes the durable files by a pending operation as P14.10 says.
func (o *oracle) keep(c call, k int) {
	old, there := o.durable[c.name]
	torn := string(c.data)
	if k >= 2 && k-2 < len(torn) {
		torn = torn[:k-2]
	}
	switch {
	case k < 1:
	case c.kind == "write":
		o.durable[c.name] = torn
	case !there:
	case c.kind == "append":
		o.durable[c.name] = old + torn
	case k > 1:
	case c.kind == "truncate":
		o.durable[c.name] = old[:min(c.n, len(old))]
	default:
		delete(o.durable, c.name)
		if c.kind == "rename" {
			o.durable[c.to] = old
		}
	}
}

func (o *oracle) crash(kept []int) {
	for i, c := range o.pending {
		if i < len(kept) {
			o.keep(c, kept[i])
		}
	}
	o.seen, o.pending, o.dead, o.fuse = maps.Clone(o.durable), nil, false, -1
}

func (o *oracle) do(c call) api.Errno {
	switch c.kind {
	case "fuse":
		if !o.dead {
			o.fuse = max(c.n, -1)
		}
	case "capacity":
		if c.n < 0 || c.n > 1<<30 {
			return api.ErrArg
		}
		o.capacity = c.n
	case "crash":
		o.crash(c.kept)
	default:
		return o.change(c)
	}
	return api.OK
}

// images tells a directory as text: names, colons, bytes.
func images(files map[string]string) string {
	var parts []string
	for _, name := range slices.Sorted(maps.Keys(files)) {
		parts = append(parts, name+":"+files[name])
	}
	return strings.Join(parts, " ")
}

func image(blobs []api.Blob) string {
	var parts []string
	for _, b := range blobs {
		parts = append(parts, b.Name+":"+string(b.Data))
	}
	return strings.Join(parts, " ")
}

// counts is what a store tells in numbers.
type counts struct {
	used, capacity, pending, calls int
	dead                           bool
}

func countsOf(s *store.Store) counts {
	return counts{s.Used(), s.Capacity(), s.Pending(), s.Calls(), s.Dead()}
}

// hold holds all that the store tells against the oracle.
func hold(t *testing.T, what string, s *store.Store, o *oracle) {
	t.Helper()
	if got, want := image(s.Image()), images(o.seen); got != want {
		t.Fatalf("%s: P14.7: Image is %q, want %q", what, got, want)
	}
	if got, want := image(s.Durable()), images(o.durable); got != want {
		t.Fatalf("%s: P14.7: Durable is %q, want %q", what, got, want)
	}
	if got, want := countsOf(s), (counts{o.used(), o.capacity, len(o.pending), o.calls, o.dead}); got != want {
		t.Fatalf("%s: P14.7: used, capacity, pending, calls, dead are %v, want %v", what, got, want)
	}
}

// holdReading holds the calls that read by a name or a prefix against the oracle.
func holdReading(t *testing.T, what string, s *store.Store, o *oracle) {
	t.Helper()
	for _, name := range []string{"", "a", "b", "ab", "t/a", "a b"} {
		want, there := o.seen[name]
		e := api.OK
		switch {
		case o.dead:
			e, want = api.ErrStoDead, ""
		case !called(name):
			e = api.ErrStoName
		case !there:
			e = api.ErrStoNone
		}
		data, e1 := s.Read(name)
		n, e2 := s.Size(name)
		if string(data) != want || n != len(want) || e1 != e || e2 != e {
			t.Fatalf("%s: P14.7: Read(%q) = %q, %v; Size %d, %v; want %q, %v", what, name, data, e1, n, e2, want, e)
		}
	}
	for _, prefix := range []string{"", "a", "t/", "ab", "b", "abc"} {
		var want []string
		for _, name := range slices.Sorted(maps.Keys(o.seen)) {
			if strings.HasPrefix(name, prefix) && !o.dead {
				want = append(want, name)
			}
		}
		if got := slices.Collect(s.Names(prefix)); !slices.Equal(got, want) {
			t.Fatalf("%s: P14.7: Names(%q) = %q, want %q", what, prefix, got, want)
		}
	}
}
