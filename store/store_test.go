package store_test

import (
	"slices"
	"strings"
	"testing"

	"larder/api"
	"larder/samples"
	"larder/store"
)

// behind is a store of a capacity behind some calls, whatever they answered.
func behind(capacity int, text string) *store.Store {
	s := samples.Must(store.New(capacity))
	for _, c := range calls(text) {
		c.on(s)
	}
	return s
}

// dead is a store without power: it sees a:12, and t:3 is durable too.
func dead() *store.Store {
	return behind(9, "write t 3; sync; write a 12; fuse 0; append a 4")
}

func TestNew(t *testing.T) {
	t.Parallel()
	for _, c := range []struct {
		capacity int
		e        api.Errno
	}{
		{-1 << 63, api.ErrArg}, {-1, api.ErrArg}, {0, api.OK}, {1, api.OK}, {api.MaxCapacity, api.OK}, {api.MaxCapacity + 1, api.ErrArg}, {1<<63 - 1, api.ErrArg},
	} {
		s, e := store.New(c.capacity)
		if e != c.e || (s == nil) != (e != api.OK) {
			t.Errorf("P14.1: New(%d): %v, %v, want %v", c.capacity, s, e, c.e)
		}
		loaded, e := store.Load(nil, c.capacity)
		if e != c.e || (loaded == nil) != (e != api.OK) {
			t.Errorf("P14.1: Load(none, %d): %v, %v, want %v", c.capacity, loaded, e, c.e)
		}
		if e == api.OK {
			hold(t, "P14.1: new", s, oracleOf(nil, c.capacity))
			hold(t, "P14.1: loaded", loaded, oracleOf(nil, c.capacity))
		}
		kept := behind(7, "write a 1")
		if e := kept.SetCapacity(c.capacity); e != c.e || e == api.OK && kept.Capacity() != c.capacity || e != api.OK && kept.Capacity() != 7 {
			t.Errorf("P14.8: SetCapacity(%d): %v, want %v; then %d", c.capacity, e, c.e, kept.Capacity())
		}
	}
}

func TestLoad(t *testing.T) {
	t.Parallel()
	long := strings.Repeat("x", 258)
	for _, c := range []struct {
		names    []string
		capacity int
		e        api.Errno
	}{
		{[]string{"a"}, 0, api.OK},
		{[]string{"a", "b", "t/a", "t/b"}, 3, api.OK},
		{[]string{"!", "a", "a!", "aa", "b", "~"}, 3, api.OK},
		{[]string{"B", "a"}, 3, api.OK},
		{[]string{long}, 3, api.OK},
		{[]string{"b", "a"}, 3, api.ErrStoImage},
		{[]string{"a", "B"}, 3, api.ErrStoImage},
		{[]string{"a", "c", "b"}, 3, api.ErrStoImage},
		{[]string{"aa", "a"}, 3, api.ErrStoImage},
		{[]string{"a", "a"}, 3, api.ErrStoImage},
		{[]string{"a", "b", "b"}, 3, api.ErrStoImage},
		{[]string{""}, 3, api.ErrStoImage},
		{[]string{"", "a"}, 3, api.ErrStoImage},
		{[]string{"a b"}, 3, api.ErrStoImage},
		{[]string{"a", "a\x7f"}, 3, api.ErrStoImage},
		{[]string{"a", "é"}, 3, api.ErrStoImage},
		{[]string{long + "x"}, 3, api.ErrStoImage},
		{[]string{"b", "a"}, -1, api.ErrArg},
		{[]string{""}, api.MaxCapacity + 1, api.ErrArg},
	} {
		var first []api.Blob
		for _, name := range c.names {
			first = append(first, api.Blob{Name: name, Data: []byte("of " + name)})
		}
		s, e := store.Load(first, c.capacity)
		if e != c.e || (s == nil) != (e != api.OK) {
			t.Errorf("P14.1: Load(%q, %d): %v, want %v", c.names, c.capacity, e, c.e)
		}
		if e == api.OK {
			hold(t, "P14.1: loaded", s, oracleOf(first, c.capacity))
			s.Crash(api.Choice{Kept: []int{1, 1}})
			hold(t, "P14.1: all durable", s, oracleOf(first, c.capacity))
		}
	}
}

// P14.1: an image with more bytes than the capacity: what does not grow has room.
func TestLoadAbove(t *testing.T) {
	t.Parallel()
	first := []api.Blob{{Name: "a", Data: []byte("1234")}, {Name: "b", Data: []byte("56")}}
	answers(t, samples.Must(store.Load(first, 3)), []answer{
		{"append a -", api.OK},
		{"append a 7", api.ErrStoFull},
		{"write c -", api.OK},
		{"write c 7", api.ErrStoFull},
		{"write a 7890", api.OK},
		{"write a 78901", api.ErrStoFull},
		{"write a 78", api.OK}, // 4 is above 3, and below 6
		{"write a 789", api.ErrStoFull},
		{"rename a d", api.OK},
		{"truncate d 1", api.OK}, // 3
		{"append d 7", api.ErrStoFull},
		{"write b 7", api.OK}, // 2
		{"append d 8", api.OK},
		{"append d 9", api.ErrStoFull},
	}, "b:7 c: d:78")
}

type answer struct {
	call string
	e    api.Errno
}

// answers holds what a store answers, call by call, and what is seen then; and that a refused call is none.
func answers(t *testing.T, s *store.Store, list []answer, seen string) {
	t.Helper()
	for _, a := range list {
		ahead, was := countsOf(s), image(s.Image())+"|"+image(s.Durable())
		if e := calls(a.call)[0].on(s); e != a.e {
			t.Errorf("%s: %v, want %v", a.call, e, a.e)
		}
		if a.e != api.OK && a.e != api.ErrStoDead && (countsOf(s) != ahead || image(s.Image())+"|"+image(s.Durable()) != was) {
			t.Errorf("%s is refused and does something: %v, then %v", a.call, ahead, countsOf(s))
		}
	}
	if got := image(s.Image()); got != seen {
		t.Errorf("seen is %q, want %q", got, seen)
	}
}

func TestExamples(t *testing.T) {
	t.Parallel()
	s := samples.Must(store.New(5))
	answers(t, s, []answer{
		{"write a abc", api.OK},
		{"append a def", api.ErrStoFull},
		{"write a vwxyz", api.OK},
		{"rename a t/long", api.OK},
		{"append b -", api.ErrStoNone},
		{"write - -", api.ErrStoName},
	}, "t/long:vwxyz")
	if got, want := countsOf(s), (counts{5, 5, 3, 3, false}); got != want {
		t.Errorf("P14.7: example 1: %v, want %v", got, want)
	}
	if data, e := s.Read("a"); data != nil || e != api.ErrStoNone {
		t.Errorf("P14.7: example 1: Read(a): %q, %v", data, e)
	}
	for _, c := range []struct{ calls, want string }{
		{"write a abc; write a vwxyz; rename a t/long; crash 0 1 1", "t/long:vwxyz"},
		{"write a abc; write a vwxyz; rename a t/long; crash 1 0 1", "t/long:abc"},
		{"write a abc; write a vwxyz; rename a t/long; crash", ""},
		{"write a abc; write a vwxyz; rename a t/long; crash 0 0 1", ""},
		{"write a abc; write a vwxyz; rename a t/long; crash 4", "a:ab"},
		{"write a 1; sync; write a 2345; remove a; crash 0 0", "a:1"},
		{"write a 1; sync; write a 2345; remove a; crash 2 0", "a:"},
		{"write a 1; sync; write a 2345; remove a; crash 1 1", ""},
		{"write a 1; sync; write a 2345; remove a; crash 0 1", ""},
		{"fuse 1; write x 1; remove zz; append x 23; crash 1 3", "x:12"},
	} {
		if got := image(behind(9, c.calls).Image()); got != c.want {
			t.Errorf("P14.10: examples 2 to 4: %s: %q, want %q", c.calls, got, c.want)
		}
	}
	s = samples.Must(store.New(9))
	answers(t, s, []answer{{"fuse 1", api.OK}, {"write x 1", api.OK}, {"remove zz", api.ErrStoNone}, {"append x 23", api.ErrStoDead}}, "x:1")
	if _, e := s.Read("x"); e != api.ErrStoDead || s.Pending() != 2 {
		t.Errorf("P14.9: example 4: Read(x): %v, %d pending", e, s.Pending())
	}
	answers(t, samples.Must(store.New(3)), []answer{
		{"write a abc", api.OK}, {"capacity 1", api.OK}, {"write a ab", api.OK}, {"write a abc", api.ErrStoFull},
	}, "a:ab")
}

func TestNames(t *testing.T) {
	t.Parallel()
	for _, c := range []struct {
		name string
		is   bool
	}{
		{"", false}, {"!", true}, {"~", true}, {"x", true}, {"/", true}, {"..", true}, {"t/", true},
		{" ", false}, {"\x7f", false}, {"\x00", false}, {"\n", false}, {"\x80", false}, {"é", false}, {"\xff", false},
		{"a ", false}, {" a", false}, {"a b", false}, {"ab\x7f", false}, {"a\x20b", false},
		{strings.Repeat("x", 256), true}, {strings.Repeat("x", 257), true}, {strings.Repeat("x", 258), true}, {strings.Repeat("x", 259), false}, {strings.Repeat("x", 1<<20), false},
		{strings.Repeat("x", 257) + "~", true}, {strings.Repeat("x", 257) + "\x7f", false}, {" " + strings.Repeat("x", 257), false},
	} {
		of := func(is api.Errno) api.Errno {
			if c.is {
				return is
			}
			return api.ErrStoName
		}
		s := behind(9, "write a 1")
		_, read := s.Read(c.name)
		_, size := s.Size(c.name)
		for call, got := range map[string][2]api.Errno{
			"Append":      {s.Append(c.name, nil), of(api.ErrStoNone)},
			"Truncate":    {s.Truncate(c.name, -1), of(api.ErrStoNone)},
			"Rename":      {s.Rename(c.name, "a"), of(api.ErrStoNone)},
			"Rename same": {s.Rename(c.name, c.name), of(api.ErrStoNone)},
			"Remove":      {s.Remove(c.name), of(api.ErrStoNone)},
			"Read":        {read, of(api.ErrStoNone)},
			"Size":        {size, of(api.ErrStoNone)},
			"Rename none": {s.Rename("none", c.name), of(api.ErrStoNone)},
			"Rename a":    {s.Rename("a", c.name), of(api.OK)},
			"Write":       {s.Write(c.name, []byte("2")), of(api.OK)},
			"Write again": {s.Write(c.name, []byte("234567890")), of(api.OK)},
		} {
			if got[0] != got[1] {
				t.Errorf("P14.2 to P14.7: %s of %.300q: %v, want %v", call, c.name, got[0], got[1])
			}
		}
		if data, e := s.Read(c.name); c.is && (e != api.OK || string(data) != "234567890") {
			t.Errorf("P14.2: %.300q: %q, %v", c.name, data, e)
		}
	}
}

// TestOperations: ordinary calls, edges, and several errors at once in their order.
func TestOperations(t *testing.T) {
	t.Parallel()
	for _, c := range []struct {
		why     string
		calls   string
		answers []answer
		seen    string
	}{
		{"P14.2: makes, replaces", "", []answer{{"write a -", api.OK}, {"write b 12345", api.OK}, {"write b 6", api.OK}, {"write a 78", api.OK}}, "a:78 b:6"},
		{"P14.2: the name first", "write a 123456", []answer{{"write - 1234567", api.ErrStoName}}, "a:123456"},
		{"P14.2: just room", "write a 123", []answer{{"write b 4567", api.ErrStoFull}, {"write b 456", api.OK}, {"write c -", api.OK}, {"write c 7", api.ErrStoFull}, {"write a 789", api.OK}, {"write a 7890", api.ErrStoFull}}, "a:789 b:456 c:"},
		{"P14.3: behind", "write a 1", []answer{{"append a 23", api.OK}, {"append a -", api.OK}, {"append a 456", api.OK}, {"append a 7", api.ErrStoFull}, {"append a -", api.OK}}, "a:123456"},
		{"P14.3: errors in their order", "write a 123456", []answer{{"append - 7", api.ErrStoName}, {"append b 7", api.ErrStoNone}, {"append b -", api.ErrStoNone}, {"append a 7", api.ErrStoFull}}, "a:123456"},
		{"P14.4: the size, less, 0", "write a 123", []answer{{"truncate a 3", api.OK}, {"truncate a 2", api.OK}, {"truncate a 3", api.ErrArg}, {"truncate a 0", api.OK}, {"truncate a 0", api.OK}, {"truncate a 1", api.ErrArg}}, "a:"},
		{"P14.4: errors in their order", "write a 123", []answer{{"truncate - -1", api.ErrStoName}, {"truncate b -1", api.ErrStoNone}, {"truncate b 0", api.ErrStoNone}, {"truncate a -1", api.ErrArg}, {"truncate a -9223372036854775808", api.ErrArg}, {"truncate a 4", api.ErrArg}, {"truncate a 9223372036854775807", api.ErrArg}}, "a:123"},
		{"P14.4: what is cut off does not come back", "write a 123", []answer{{"truncate a 1", api.OK}, {"append a 45", api.OK}, {"truncate a 2", api.OK}, {"append a -", api.OK}}, "a:14"},
		{"P14.5: onto none, onto a file", "write a 123; write b 456", []answer{{"rename a c", api.OK}, {"rename c b", api.OK}, {"rename b a", api.OK}}, "a:123"},
		{"P14.5: errors in their order", "write a 1", []answer{{"rename - -", api.ErrStoName}, {"rename - a", api.ErrStoName}, {"rename a -", api.ErrStoName}, {"rename b -", api.ErrStoName}, {"rename b b", api.ErrStoNone}, {"rename b a", api.ErrStoNone}, {"rename a a", api.ErrArg}}, "a:1"},
		{"P14.5: no room is needed", "write a 123456; capacity 0", []answer{{"rename a b", api.OK}}, "b:123456"},
		{"P14.5: what it led to is gone", "write a 123; write b 456; rename a b", []answer{{"write c 789", api.OK}, {"write d 0", api.ErrStoFull}}, "b:123 c:789"},
		{"P14.6: taken away", "write a 123456", []answer{{"write b 1", api.ErrStoFull}, {"remove a", api.OK}, {"remove a", api.ErrStoNone}, {"write b 1", api.OK}}, "b:1"},
		{"P14.6: errors in their order", "write a 1", []answer{{"remove -", api.ErrStoName}, {"remove b", api.ErrStoNone}}, "a:1"},
		{"P14.6: Sync changes nothing that is seen", "write a 1", []answer{{"sync", api.OK}, {"sync", api.OK}, {"remove a", api.OK}, {"sync", api.OK}}, ""},
		{"P14.8: below what is used", "write a 123", []answer{{"capacity 2", api.OK}, {"append a -", api.OK}, {"append a 4", api.ErrStoFull}, {"write a 456", api.OK}, {"write a 4567", api.ErrStoFull}, {"truncate a 1", api.OK}, {"append a 5", api.OK}, {"append a 6", api.ErrStoFull}, {"capacity -1", api.ErrArg}, {"capacity 3", api.OK}, {"append a 6", api.OK}}, "a:456"},
		{"P14.8: nothing", "capacity 0", []answer{{"write a -", api.OK}, {"write b 1", api.ErrStoFull}, {"append a 1", api.ErrStoFull}}, "a:"},
	} {
		t.Run(c.why, func(t *testing.T) {
			answers(t, behind(6, c.calls), c.answers, c.seen)
		})
	}
}

func TestReading(t *testing.T) {
	t.Parallel()
	s := behind(99, "write t/b 12; write t/a 345; write a -; write T 6; write n/7.0 7890; write n/10.1 1; sync; remove T; write t/ab 23")
	for _, c := range []struct {
		prefix string
		want   []string
	}{
		{"", []string{"a", "n/10.1", "n/7.0", "t/a", "t/ab", "t/b"}},
		{"n/", []string{"n/10.1", "n/7.0"}},
		{"t", []string{"t/a", "t/ab", "t/b"}},
		{"t/a", []string{"t/a", "t/ab"}},
		{"t/ab", []string{"t/ab"}},
		{"t/abc", nil}, {"T", nil}, {"x", nil}, {" ", nil}, {"\xff", nil}, {strings.Repeat("a", 1000), nil},
	} {
		if got := slices.Collect(s.Names(c.prefix)); !slices.Equal(got, c.want) {
			t.Errorf("P14.7: Names(%q) = %q, want %q", c.prefix, got, c.want)
		}
	}
	if got, want := countsOf(s), (counts{12, 99, 2, 9, false}); got != want {
		t.Errorf("P14.7: %v, want %v", got, want)
	}
	if got, want := image(s.Image()), "a: n/10.1:1 n/7.0:7890 t/a:345 t/ab:23 t/b:12"; got != want {
		t.Errorf("P14.7: Image is %q, want %q", got, want)
	}
	if got, want := image(s.Durable()), "T:6 a: n/10.1:1 n/7.0:7890 t/a:345 t/b:12"; got != want {
		t.Errorf("P14.7: Durable is %q, want %q", got, want)
	}
	if data, e := s.Read("t/a"); string(data) != "345" || e != api.OK {
		t.Errorf("P14.7: Read(t/a) = %q, %v", data, e)
	}
	if n, e := s.Size("n/7.0"); n != 4 || e != api.OK {
		t.Errorf("P14.7: Size(n/7.0) = %d, %v", n, e)
	}
}

// P14.7: an iterator of names may be left, gone through again, and tells the names as they were when it was asked for.
func TestNamesIterator(t *testing.T) {
	t.Parallel()
	s := behind(99, "write a 1; write b 2; write c 3")
	names := s.Names("")
	for name := range names {
		if name == "b" {
			break
		}
		if name != "a" {
			t.Errorf("P14.7: %q ahead of b", name)
		}
	}
	var got []string
	for name := range names {
		got = append(got, name)
		s.Remove(name)
		s.Write("new-"+name, nil)
		s.Rename("c", "bb")
	}
	if want := []string{"a", "b", "c"}; !slices.Equal(got, want) || !slices.Equal(slices.Collect(names), want) {
		t.Errorf("P14.7: while the store is changed: %q, then %q, want %q", got, slices.Collect(names), want)
	}
	if got, want := slices.Collect(s.Names("")), []string{"bb", "new-a", "new-b", "new-c"}; !slices.Equal(got, want) {
		t.Errorf("P14.7: behind the changes: %q, want %q", got, want)
	}
	alive := s.Names("new")
	s.Fuse(0)
	s.Sync()
	none := s.Names("new")
	if got := slices.Collect(alive); len(got) != 3 {
		t.Errorf("P14.7: asked for while there was power: %q", got)
	}
	s.Crash(api.Choice{})
	if got := slices.Collect(none); len(got) != 0 {
		t.Errorf("P14.7: asked for without power: %q", got)
	}
}

// TestCounts: Calls and Pending, behind refused calls and others.
func TestCounts(t *testing.T) {
	t.Parallel()
	s := samples.Must(store.New(5))
	for _, c := range []struct {
		call           string
		calls, pending int
	}{
		{"sync", 1, 0},
		{"write a 12345", 2, 1},
		{"write b 6", 2, 1},
		{"append - -", 2, 1},
		{"append a -", 3, 2},
		{"truncate a 6", 3, 2},
		{"truncate a 5", 4, 3},
		{"rename a a", 4, 3},
		{"rename a b", 5, 4},
		{"remove a", 5, 4},
		{"remove b", 6, 5},
		{"capacity 9", 6, 5},
		{"fuse 9", 6, 5},
		{"sync", 7, 0},
		{"write a 1", 8, 1},
		{"crash 1", 8, 0},
		{"write a 1", 9, 1},
		{"fuse 0", 9, 1},
		{"remove b", 9, 1},
		{"remove a", 9, 2},
		{"remove a", 9, 2},
		{"sync", 9, 2},
		{"crash 1 1", 9, 0},
		{"sync", 10, 0},
	} {
		calls(c.call)[0].on(s)
		if s.Calls() != c.calls || s.Pending() != c.pending {
			t.Errorf("P14.7: behind %s: %d calls, %d pending, want %d, %d", c.call, s.Calls(), s.Pending(), c.calls, c.pending)
		}
	}
}

func TestFuse(t *testing.T) {
	t.Parallel()
	for _, c := range []struct {
		why, calls string
		answers    []answer
		seen       string
	}{
		{"none", "", []answer{{"write a 1", api.OK}, {"sync", api.OK}}, "a:1"},
		{"0", "fuse 0", []answer{{"write a 1", api.ErrStoDead}, {"write a 1", api.ErrStoDead}, {"sync", api.ErrStoDead}}, ""},
		{"1", "fuse 1", []answer{{"write a 1", api.OK}, {"remove a", api.ErrStoDead}}, "a:1"},
		{"2 with a Sync", "fuse 2", []answer{{"write a 1", api.OK}, {"sync", api.OK}, {"append a 2", api.ErrStoDead}}, "a:1"},
		{"a Sync", "write a 1; fuse 0", []answer{{"sync", api.ErrStoDead}}, "a:1"},
		{"below 0", "fuse -1", []answer{{"write a 1", api.OK}, {"remove a", api.OK}, {"sync", api.OK}}, ""},
		{"far below 0", "fuse -9223372036854775808", []answer{{"write a 1", api.OK}, {"remove a", api.OK}}, ""},
		{"far above", "fuse 9223372036854775807", []answer{{"write a 1", api.OK}, {"remove a", api.OK}}, ""},
		{"set again, later", "fuse 0; fuse 1", []answer{{"write a 1", api.OK}, {"write b 1", api.ErrStoDead}}, "a:1"},
		{"set again, earlier", "fuse 5; write a 1; fuse 0", []answer{{"write b 1", api.ErrStoDead}}, "a:1"},
		{"taken away", "fuse 0; fuse -1", []answer{{"write a 1", api.OK}, {"sync", api.OK}}, "a:1"},
		{"refused calls in between", "write a 12; fuse 1", []answer{
			{"write - 1", api.ErrStoName}, {"write b 123456789", api.ErrStoFull}, {"append b 1", api.ErrStoNone}, {"append a 123456789", api.ErrStoFull}, {"truncate a 3", api.ErrArg}, {"rename a a", api.ErrArg}, {"remove b", api.ErrStoNone},
			{"rename a b", api.OK},
			{"remove a", api.ErrStoNone}, {"truncate b -1", api.ErrArg}, {"append b 123456789", api.ErrStoFull},
			{"truncate b 1", api.ErrStoDead}}, "b:12"},
		{"without power, set again", "fuse 0; sync; fuse -1", []answer{{"sync", api.ErrStoDead}, {"fuse 5", api.OK}, {"sync", api.ErrStoDead}}, ""},
		{"set without power, gone behind the crash", "fuse 0; sync; fuse 0; crash", []answer{{"write a 1", api.OK}, {"sync", api.OK}}, "a:1"},
		{"gone behind a crash with power", "fuse 1; write a 1; crash 1", []answer{{"write b 1", api.OK}, {"sync", api.OK}, {"sync", api.OK}}, "a:1 b:1"},
		{"without power nothing but that", "fuse 0; sync", []answer{{"write - 1", api.ErrStoDead}, {"append b 1", api.ErrStoDead}, {"truncate b -1", api.ErrStoDead}, {"rename - -", api.ErrStoDead}, {"remove b", api.ErrStoDead}, {"capacity -1", api.ErrArg}, {"capacity 3", api.OK}, {"crash", api.OK}}, ""},
	} {
		t.Run("P14.9: "+c.why, func(t *testing.T) {
			answers(t, behind(9, c.calls), c.answers, c.seen)
		})
	}
}

// P14.9, P14.10: the operation in whose midst the power went is not seen, is the last pending one, and a crash may keep it.
func TestMidst(t *testing.T) {
	t.Parallel()
	for _, c := range []struct{ call, whole, three string }{
		{"write a 456", "a:456 b:3", "a:4 b:3"},
		{"write c 456", "a:12 b:3 c:456", "a:12 b:3 c:4"},
		{"append a 456", "a:12456 b:3", "a:124 b:3"},
		{"truncate a 1", "a:1 b:3", "a:12 b:3"},
		{"rename a b", "b:12", "a:12 b:3"},
		{"rename a c", "b:3 c:12", "a:12 b:3"},
		{"remove a", "b:3", "a:12 b:3"},
	} {
		for kept, want := range map[string]string{"1 1": c.whole, "1 3": c.three, "1 0": "a:12 b:3", "1": "a:12 b:3"} {
			s := behind(9, "write a 12; sync; write b 3; fuse 0; "+c.call)
			if got := image(s.Image()); got != "a:12 b:3" || s.Pending() != 2 || !s.Dead() || image(s.Durable()) != "a:12" {
				t.Errorf("P14.9: %s: seen is %q, durable %q, %d pending", c.call, got, image(s.Durable()), s.Pending())
			}
			if calls("crash " + kept)[0].on(s); image(s.Image()) != want {
				t.Errorf("P14.10: %s, Crash(%s): %q, want %q", c.call, kept, image(s.Image()), want)
			}
		}
	}
	s := behind(9, "write a 1; fuse 0; sync")
	if s.Pending() != 1 || image(s.Durable()) != "" {
		t.Errorf("P14.9: a Sync in whose midst the power went: %d pending, durable %q", s.Pending(), image(s.Durable()))
	}
}

// TestCrash: each kind of operation with each number, the file there and not there.
func TestCrash(t *testing.T) {
	t.Parallel()
	numbers := []string{"-9223372036854775808", "-1", "0", "1", "2", "3", "4", "5", "6", "9223372036854775807"}
	const none = "="
	for _, c := range []struct {
		calls string // the last one is held, the others are not kept
		ahead string // how the numbers of those are
		want  []string
	}{
		{"write a 123", "", []string{none, none, none, "a:123", "a:", "a:1", "a:12", "a:123", "a:123", "a:123"}},
		{"write a xy; sync; write a 123", "", []string{none, none, none, "a:123", "a:", "a:1", "a:12", "a:123", "a:123", "a:123"}},
		{"write a xy; sync; append a 123", "", []string{none, none, none, "a:xy123", "a:xy", "a:xy1", "a:xy12", "a:xy123", "a:xy123", "a:xy123"}},
		{"write a xy; append a 123", "0 ", []string{none, none, none, none, none, none, none, none, none, none}},
		{"write a xyzuv; sync; truncate a 3", "", []string{none, none, none, "a:xyz", none, none, none, none, none, none}},
		{"write a xy; sync; append a zuv; truncate a 3", "0 ", []string{none, none, none, none, none, none, none, none, none, none}},
		{"write a xy; sync; append a zuv; truncate a 1", "0 ", []string{none, none, none, "a:x", none, none, none, none, none, none}},
		{"write a xy; truncate a 1", "0 ", []string{none, none, none, none, none, none, none, none, none, none}},
		{"write a xy; sync; rename a b", "", []string{none, none, none, "b:xy", none, none, none, none, none, none}},
		{"write a xy; write b z; sync; rename a b", "", []string{none, none, none, "b:xy", none, none, none, none, none, none}},
		{"write b z; sync; write a xy; rename a b", "0 ", []string{none, none, none, none, none, none, none, none, none, none}},
		{"write a xy; sync; remove a", "", []string{none, none, none, "", none, none, none, none, none, none}},
		{"write a xy; remove a", "0 ", []string{none, none, none, none, none, none, none, none, none, none}},
		{"write a -", "", []string{none, none, none, "a:", "a:", "a:", "a:", "a:", "a:", "a:"}},
		{"write a xy; sync; append a -", "", []string{none, none, none, "a:xy", "a:xy", "a:xy", "a:xy", "a:xy", "a:xy", "a:xy"}},
	} {
		for i, number := range numbers {
			for _, end := range []string{"", " 1 1 7"} {
				for _, power := range []string{"", "fuse 0; sync; "} {
					s := behind(99, c.calls)
					want := c.want[i]
					if want == none {
						want = image(s.Durable())
					}
					script := power + "crash " + c.ahead + number + end
					for _, c := range calls(script) {
						c.on(s)
					}
					if got := image(s.Image()); got != want || image(s.Durable()) != want || s.Dead() || s.Pending() != 0 || s.Used() != used(s) {
						t.Errorf("P14.10: %s; %s: %q, durable %q, dead %v, %d pending, %d used, want %q", c.calls, script, got, image(s.Durable()), s.Dead(), s.Pending(), s.Used(), want)
					}
				}
			}
		}
	}
}

func used(s *store.Store) int {
	n := 0
	for _, b := range s.Image() {
		n += len(b.Data)
	}
	return n
}

// P14.10: several pending operations, some of which are kept.
func TestCrashSeveral(t *testing.T) {
	t.Parallel()
	for _, c := range []struct{ why, calls, want string }{
		{"a rename whose source was not kept", "write a 12; rename a b; crash 0 1", ""},
		{"a rename whose source was not kept, onto a file", "write b 3; sync; write a 12; rename a b; crash 0 1", "b:3"},
		{"a rename whose source is another one's", "write a 12; write b 3; sync; rename a c; rename b a; rename a d; crash 0 0 1", "b:3 d:12"},
		{"a source that went and was not removed", "write a 12; sync; rename a b; write a 3; crash 0 1", "a:3"},
		{"appends to what a lost rename would have led to", "write a 12; sync; rename a b; append b 3; crash 0 1", "a:12"},
		{"appends to what it leads to", "write a 12; sync; rename a b; append b 3; crash 1 1", "b:123"},
		{"the second append without the first", "write a 12; sync; append a 34; append a 56; crash 0 1", "a:1256"},
		{"the first one torn, the second whole", "write a 12; sync; append a 34; append a 56; crash 3 1", "a:12356"},
		{"a torn write with appends behind it", "write a 1234; append a 56; append a 78; crash 4 0 1", "a:1278"},
		{"a torn write, and its bytes again", "write a 1234; append a 56; crash 4 1", "a:1256"},
		{"an append behind a lost truncation", "write a 1234; sync; truncate a 1; append a 56; crash 0 1", "a:123456"},
		{"a truncation and no append", "write a 1234; sync; truncate a 1; append a 56; crash 1 0", "a:1"},
		{"a truncation of what a lost write had made longer", "write a 12; sync; write a 123456; truncate a 4; crash 0 1", "a:12"},
		{"a removal that was lost", "write a 12; sync; remove a; write a 3; crash 0 0", "a:12"},
		{"a removal alone", "write a 12; sync; remove a; write a 3; crash 1 0", ""},
		{"too few numbers", "write a 12; write b 3; write c 4; crash 1", "a:12"},
		{"too many numbers", "write a 12; crash 1 1 1 1", "a:12"},
		{"Sync ahead", "write a 12; append a 3; sync; crash 0 0", "a:123"},
		{"Sync in between", "write a 12; sync; append a 3; crash 0", "a:12"},
		{"twice", "write a 12; crash 3; append a 3; crash 1", "a:13"},
		{"twice, the second one for nothing", "write a 12; crash 1; crash 0", "a:12"},
		{"more bytes than there is room for", "capacity 4; write a 1234; sync; remove a; write b 5678; crash 0 1", "a:1234 b:5678"},
		{"nothing pending", "crash 1 1", ""},
	} {
		s := behind(99, c.calls)
		if got := image(s.Image()); got != c.want || image(s.Durable()) != c.want || s.Used() != used(s) {
			t.Errorf("P14.10: %s: %s: %q, durable %q, %d used, want %q", c.why, c.calls, got, image(s.Durable()), s.Used(), c.want)
		}
	}
}

// calledOn makes each call that answers an error on a store, and tells what it answers; other results must be zero.
func calledOn(t *testing.T, s *store.Store) map[string]api.Errno {
	data, read := s.Read("a")
	n, size := s.Size("a")
	if data != nil || n != 0 {
		t.Errorf("P14.7: beside an error: %q, %d", data, n)
	}
	return map[string]api.Errno{
		"Write": s.Write("a", []byte("1")), "Append": s.Append("a", []byte("1")), "Truncate": s.Truncate("a", 0),
		"Rename": s.Rename("a", "b"), "Remove": s.Remove("a"), "Sync": s.Sync(), "Read": read, "Size": size,
	}
}

func TestNil(t *testing.T) {
	t.Parallel()
	var s *store.Store
	s.Fuse(0)
	for call, e := range calledOn(t, s) {
		if e != api.ErrArg {
			t.Errorf("P14.1: %s of a nil store: %v", call, e)
		}
	}
	for _, c := range calls("write - -; append - -; truncate - -1; rename - -; remove -; capacity 1; capacity -1; crash; crash 1") {
		if e := c.on(s); e != api.ErrArg {
			t.Errorf("P14.1: %s of a nil store: %v", c.kind, e)
		}
	}
	if got := countsOf(s); got != (counts{}) || s.Image() != nil || s.Durable() != nil {
		t.Errorf("P14.7: a nil store tells %v, %v, %v", got, s.Image(), s.Durable())
	}
	for name := range s.Names("") {
		t.Errorf("P14.7: a nil store has %q", name)
	}
}

func TestDead(t *testing.T) {
	t.Parallel()
	s := dead()
	for call, e := range calledOn(t, s) {
		if e != api.ErrStoDead {
			t.Errorf("P14.9: %s of a store without power: %v", call, e)
		}
	}
	for _, c := range calls("write - -; append - -; truncate - -1; rename - -; remove -") {
		if e := c.on(s); e != api.ErrStoDead {
			t.Errorf("P14.1: %s of a store without power: %v", c.kind, e)
		}
	}
	if _, e := s.Read(""); e != api.ErrStoDead {
		t.Errorf("P14.1: Read of a store without power: %v", e)
	}
	for name := range s.Names("") {
		t.Errorf("P14.7: a store without power has %q", name)
	}
	if e := s.SetCapacity(8); e != api.OK {
		t.Errorf("P14.8: a store without power: %v", e)
	}
	if got, want := countsOf(s), (counts{3, 8, 2, 3, true}); got != want {
		t.Errorf("P14.7: a store without power tells %v, want %v", got, want)
	}
	if image(s.Image()) != "a:12 t:3" || image(s.Durable()) != "t:3" {
		t.Errorf("P14.7: a store without power: %q, durable %q", image(s.Image()), image(s.Durable()))
	}
}

// A store that nobody made is one without room.
func TestZero(t *testing.T) {
	t.Parallel()
	s := new(store.Store)
	hold(t, "zero", s, oracleOf(nil, 0))
	answers(t, s, []answer{{"sync", api.OK}, {"write a 1", api.ErrStoFull}, {"remove a", api.ErrStoNone}, {"write a -", api.OK}, {"sync", api.OK}, {"crash", api.OK}}, "a:")
}
