package journal_test

import (
	"bytes"
	"slices"
	"testing"

	"larder/api"
	"larder/journal"
	"larder/samples"
	"larder/store"
)

// P15.1: what is handed in is neither changed nor shared with an answer, its room too.
func TestMemoryOfFrames(t *testing.T) {
	t.Parallel()
	for _, text := range []string{"", "x", "a body", frameOf("in it")} {
		body := samples.Roomy([]byte(text), '!')
		room := samples.Room(body)
		journal.Check(body)
		frame, _ := journal.Encode(body)
		if !bytes.Equal(samples.Room(body), room) {
			t.Errorf("P15.1: the body %q is changed: %q", text, samples.Room(body))
		}
		samples.Fill(body, '?')
		if string(frame) != frameOf(text) {
			t.Errorf("P15.1: the frame changes with the body: %q", frame)
		}
		copy(body, text)
		samples.Fill(frame, '?')
		if string(body) != text {
			t.Errorf("P15.1: the body changes with the frame: %q", body)
		}
	}
	for _, end := range []string{"", "torn"} {
		data := samples.Roomy([]byte(framesOf("one", "", "two", "three")+end), '!')
		room := samples.Room(data)
		bodies, whole := journal.Decode(data)
		if !bytes.Equal(samples.Room(data), room) {
			t.Errorf("P15.1: Decode changes what it reads: %q", samples.Room(data))
		}
		samples.Fill(data, '?')
		if want := []string{"one", "", "two", "three"}; !slices.Equal(texts(bodies), want) || whole != len(framesOf(want...)) {
			t.Errorf("P15.1: what Decode tells changes later: %q, %d", bodies, whole)
		}
		holdApart(t, bodies)
		if len(bytes.Trim(data, "?")) != 0 {
			t.Errorf("P15.1: what is read changes with what was told: %q", data)
		}
	}
}

// holdApart holds that no two bodies share memory, by writing over all of it.
func holdApart(t *testing.T, bodies [][]byte) {
	t.Helper()
	for i, body := range bodies {
		samples.Fill(body, byte('A'+i))
	}
	for i, body := range bodies {
		if len(bytes.Trim(body[:cap(body)], string(rune('A'+i)))) != 0 {
			t.Errorf("two bodies share memory: %q", body[:cap(body)])
		}
	}
}

// P15.1: a frame that lies within a longer list is read as far as the list goes.
func TestRoomIsNotRead(t *testing.T) {
	t.Parallel()
	data := []byte(framesOf("one", "two"))
	for n := range len(data) {
		want := n / 19
		if bodies, whole := journal.Decode(data[:n]); len(bodies) != want || whole != 19*want {
			t.Errorf("P15.1: the first %d bytes: %d bodies, %d", n, len(bodies), whole)
		}
	}
}

// P15.3: what is handed to Append is neither changed nor kept; what Bodies tells is new memory each time.
func TestMemoryOfJournal(t *testing.T) {
	t.Parallel()
	s := diskOf(framesOf("one", ""))
	j := opened(t, "", s, []string{"one", ""}, 0)
	for _, text := range []string{"two", "", "four"} {
		body := samples.Roomy([]byte(text), '!')
		room := samples.Room(body)
		j.Append(body)
		if !bytes.Equal(samples.Room(body), room) {
			t.Errorf("P15.3: the body %q is changed: %q", text, samples.Room(body))
		}
		samples.Fill(body, '?')
	}
	known := []string{"one", "", "two", "", "four"}
	holdTold(t, "P15.3: a body is written over", j, known, 0)
	if contents(s) != framesOf(known...) {
		t.Errorf("P15.3: the file changes with the bodies: %q", contents(s))
	}
	first, second := j.Bodies(), j.Bodies()
	holdApart(t, first)
	samples.Fill(first, []byte("?"))
	if !slices.Equal(texts(second), known) {
		t.Errorf("P15.3: two answers share memory: %q", second)
	}
	holdTold(t, "P15.3: an answer is written over", j, known, 0)
	if e := j.Append([]byte("five")); e != api.OK {
		t.Errorf("P15.3: %v", e)
	}
	grown := append(second, []byte("mine"))
	holdTold(t, "P15.3: an answer grows", j, append(known, "five"), 0)
	j.Reset()
	j.Append([]byte("six"))
	if !slices.Equal(texts(grown), append(known, "mine")) {
		t.Errorf("P15.3: an answer changes later: %q", grown)
	}
	holdTold(t, "P15.3: behind Reset", j, []string{"six"}, 0)
}

// P15.1, P15.3: no bytes at all and a list without bytes are one.
func TestNilAndEmpty(t *testing.T) {
	t.Parallel()
	for _, none := range [][]byte{nil, {}, make([]byte, 0, 9)} {
		if frame, e := journal.Encode(none); string(frame) != frameOf("") || e != api.OK {
			t.Errorf("P15.1: Encode: %q, %v", frame, e)
		}
		if bodies, whole := journal.Decode(none); len(bodies) != 0 || whole != 0 {
			t.Errorf("P15.1: Decode: %q, %d", bodies, whole)
		}
		s := samples.Must(store.New(99))
		j := opened(t, "", s, nil, 0)
		if e := j.Append(none); e != api.OK || contents(s) != frameOf("") {
			t.Errorf("P15.3: Append: %v, %q", e, contents(s))
		}
		holdTold(t, "P15.3", j, []string{""}, 0)
	}
}
