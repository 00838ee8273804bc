package store_test

import (
	"bytes"
	"slices"
	"strconv"
	"testing"

	"larder/api"
	"larder/samples"
	"larder/store"
)

// many is an image of so many files without bytes.
func many(n int) []api.Blob {
	list := make([]api.Blob, n)
	for i := range list {
		list[i].Name = "t/" + strconv.Itoa(10000000+i)
	}
	return list
}

// P14.2, P14.5: a store with as many files as it may have, one less, and more.
func TestMostNames(t *testing.T) {
	t.Parallel()
	s := samples.Must(store.Load(many(api.MaxNames-1), 99))
	answers := func(list []answer) {
		t.Helper()
		for _, a := range list {
			if e := calls(a.call)[0].on(s); e != a.e {
				t.Errorf("P14.2: %s: %v, want %v", a.call, e, a.e)
			}
		}
	}
	answers([]answer{
		{"write a 1", api.OK}, // MaxNames files now
		{"write b -", api.ErrStoFull},
		{"write b 1", api.ErrStoFull},
		{"write - -", api.ErrStoName},
		{"write a 23", api.OK}, // it is there
		{"append a 4", api.OK},
		{"truncate a 1", api.OK},
		{"rename a b", api.OK}, // no more than there were
		{"write a -", api.ErrStoFull},
		{"rename b t/10000000", api.OK}, // one less
		{"write a 5", api.OK},
		{"write c -", api.ErrStoFull},
		{"sync", api.OK},
		{"remove t/10000001", api.OK},
		{"remove t/10000002", api.OK},
		{"write c 1", api.OK},
		{"write d 1", api.OK},
		{"write e 1", api.ErrStoFull},
		{"crash 0 0 1 1", api.OK}, // two more than there may be
		{"write e -", api.ErrStoFull},
		{"write d 23", api.OK},
		{"remove c", api.OK},
		{"write e -", api.ErrStoFull},
		{"remove d", api.OK},
		{"write e -", api.ErrStoFull},
		{"remove a", api.OK},
		{"write e -", api.OK},
	})
	if n := len(s.Image()); n != api.MaxNames {
		t.Errorf("P14.7: %d files, want %d", n, api.MaxNames)
	}
	if n := len(slices.Collect(s.Names("t/1000000"))); n != 10 {
		t.Errorf("P14.7: %d names, want 10", n)
	}
	if _, e := store.Load(many(api.MaxNames+1), 0); e != api.OK {
		t.Errorf("P14.1: an image of more than MaxNames files: %v", e)
	}
}

// P14.2, P14.3: many pending operations, one file that grows bit by bit, many Syncs over many files.
func TestMany(t *testing.T) {
	t.Parallel()
	const n = 200000
	s := samples.Must(store.New(api.MaxCapacity))
	s.Write("log", nil)
	var whole []byte
	var kept []int
	for i := range n {
		line := []byte(strconv.Itoa(i))
		if e := s.Append("log", line); e != api.OK {
			t.Fatalf("P14.3: the append %d: %v", i, e)
		}
		whole = append(whole, line...)
		kept = append(kept, 1)
	}
	if data, e := s.Read("log"); e != api.OK || !bytes.Equal(data, whole) || s.Pending() != n+1 {
		t.Errorf("P14.3: the log has %d bytes, %v, want %d", len(data), e, len(whole))
	}
	s.Crash(api.Choice{Kept: kept})
	last := strconv.Itoa(n - 1)
	if data, e := s.Read("log"); e != api.OK || !bytes.Equal(data, whole[:len(whole)-len(last)]) {
		t.Errorf("P14.10: the log has %d bytes, %v, want %d", len(data), e, len(whole)-len(last))
	}
	for i := range n {
		name := "t/" + strconv.Itoa(i)
		s.Write("n/0", []byte("12"))
		s.Sync()
		s.Rename("n/0", name)
		s.Sync()
	}
	s.Crash(api.Choice{})
	if got, want := s.Used(), len(whole)-len(last)+2*n; got != want {
		t.Errorf("P14.6: %d used, want %d", got, want)
	}
	if got := len(slices.Collect(s.Names("t/"))); got != n {
		t.Errorf("P14.7: %d names, want %d", got, n)
	}
}
