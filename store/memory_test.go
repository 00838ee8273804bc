package store_test

import (
	"bytes"
	"math/rand/v2"
	"reflect"
	"slices"
	"testing"

	"larder/api"
	"larder/samples"
	"larder/store"
)

// P14.12: what is handed in is neither changed nor kept.
func TestGiven(t *testing.T) {
	t.Parallel()
	first := samples.RoomyBlobs([]api.Blob{{Name: "a", Data: []byte("12")}, {Name: "b", Data: []byte("3")}, {Name: "c"}})
	was := samples.ExtentOfBlobs(first)
	s := samples.Must(store.Load(first, 99))
	pieces := [][]byte{samples.Roomy([]byte("xyz"), '!'), samples.Roomy([]byte("45"), '!'), samples.Roomy([]byte("uvw"), '!')}
	whole := samples.RoomOfRows(pieces)
	s.Write("d", pieces[0])
	s.Append("a", pieces[1])
	s.Append("d", pieces[2])
	if !reflect.DeepEqual(samples.ExtentOfBlobs(first), was) || !reflect.DeepEqual(samples.RoomOfRows(pieces), whole) {
		t.Fatalf("P14.12: what was handed in is changed: %q, %q", samples.ExtentOfBlobs(first), samples.RoomOfRows(pieces))
	}
	samples.SpoilBlobs(first)
	samples.FillRows(pieces, '?')
	if got, want := image(s.Image()), "a:1245 b:3 c: d:xyzuvw"; got != want {
		t.Errorf("P14.12: what was handed in is kept: seen is %q, want %q", got, want)
	}
	if got, want := image(s.Durable()), "a:12 b:3 c:"; got != want {
		t.Errorf("P14.12: what was handed in is kept: durable is %q, want %q", got, want)
	}
	kept := samples.Roomy([]int{1, 3, 4}, 1)
	numbers := samples.Room(kept)
	s.Crash(api.Choice{Kept: kept})
	if !slices.Equal(samples.Room(kept), numbers) {
		t.Errorf("P14.12: the choice is changed: %v", samples.Room(kept))
	}
	samples.Fill(kept, 1)
	if got, want := image(s.Image()), "a:124 b:3 c: d:xyzuv"; got != want {
		t.Errorf("P14.12: behind the crash %q, want %q", got, want)
	}
}

// P14.12: what is answered is new memory, its room too.
func TestAnswered(t *testing.T) {
	t.Parallel()
	first := []api.Blob{{Name: "a", Data: []byte("12")}, {Name: "b", Data: []byte("3")}, {Name: "c"}}
	s := samples.Must(store.Load(first, 99))
	for _, c := range calls("append a 45; write d xyz; append d uvw; append b 67; truncate b 1; append b 8") {
		c.on(s)
	}
	for range 2 {
		for _, name := range []string{"a", "b", "c", "d"} {
			data, _ := s.Read(name)
			samples.Fill(data, '?')
		}
		seen, durable := s.Image(), s.Durable()
		samples.SpoilBlobs(seen)
		if got, want := image(durable), "a:12 b:3 c:"; got != want {
			t.Errorf("P14.12: Image and Durable share: %q, want %q", got, want)
		}
		samples.SpoilBlobs(durable)
		if got, want := image(s.Image()), "a:1245 b:38 c: d:xyzuvw"; got != want {
			t.Errorf("P14.12: what was answered is kept: seen is %q, want %q", got, want)
		}
		if got, want := image(s.Durable()), "a:12 b:3 c:"; got != want {
			t.Errorf("P14.12: what was answered is kept: durable is %q, want %q", got, want)
		}
	}
	blobs := s.Image()
	was := image(blobs)
	for _, c := range calls("append a 9; append d 9; write b 9; truncate d 1; append d 9; sync; crash") {
		c.on(s)
	}
	if got := image(blobs); got != was {
		t.Errorf("P14.12: an answer changes later: %q, was %q", got, was)
	}
	blobs = s.Image()
	for i := range blobs {
		samples.Fill(blobs[i].Data, byte('A'+i))
	}
	for i, b := range blobs {
		if len(bytes.Trim(b.Data[:cap(b.Data)], string(rune('A'+i)))) != 0 {
			t.Errorf("P14.12: two lists of one answer share memory: %q", b.Data)
		}
	}
}

// P14.12: long mixed scripts, all that is handed in and answered being written over at once.
func TestMemoryMixed(t *testing.T) {
	t.Parallel()
	r := rand.New(rand.NewPCG(14, 3))
	for range 2000 {
		s, o := samples.Must(store.New(40)), oracleOf(nil, 40)
		var list []call
		for range 40 {
			list = append(list, mixedCall(r))
			c := list[len(list)-1]
			handed := c
			handed.data, handed.kept = samples.Roomy(c.data, '!'), samples.Roomy(c.kept, 1)
			handed.on(s)
			o.do(c)
			samples.Fill(handed.data, '?')
			samples.Fill(handed.kept, 1)
			hold(t, c.kind, s, o)
			samples.SpoilBlobs(s.Image())
			samples.SpoilBlobs(s.Durable())
			data, _ := s.Read(c.name)
			samples.Fill(data, '?')
			hold(t, c.kind, s, o)
		}
	}
}

// P14.1, P14.2: no bytes at all and a list without bytes are one.
func TestNilAndEmpty(t *testing.T) {
	t.Parallel()
	for _, none := range [][]byte{nil, {}, make([]byte, 0, 9)} {
		s := samples.Must(store.Load([]api.Blob{{Name: "a", Data: none}}, 9))
		if e := s.Write("b", none); e != api.OK {
			t.Errorf("P14.2: %v", e)
		}
		if e := s.Append("b", none); e != api.OK {
			t.Errorf("P14.3: %v", e)
		}
		for _, name := range []string{"a", "b"} {
			if data, e := s.Read(name); len(data) != 0 || e != api.OK {
				t.Errorf("P14.7: Read(%s) = %q, %v", name, data, e)
			}
		}
		s.Crash(api.Choice{Kept: make([]int, 0, 3)})
		if got := image(s.Image()); got != "a:" {
			t.Errorf("P14.10: %q", got)
		}
	}
	for _, none := range [][]api.Blob{nil, {}} {
		if s, e := store.Load(none, 1); e != api.OK || len(s.Image()) != 0 {
			t.Errorf("P14.1: Load(none): %v", e)
		}
	}
}
