package journal_test

import (
	"bytes"
	"strconv"
	"testing"

	"larder/api"
	"larder/journal"
	"larder/samples"
	"larder/store"
)

// P15.1, P15.3: a body of MaxFrame bytes, there and back, whole and torn; a frame that says one byte more, with all its bytes there.
func TestLongest(t *testing.T) {
	t.Parallel()
	body := make([]byte, api.MaxFrame)
	body[0], body[len(body)-1] = 1, 2
	frame, e := journal.Encode(body)
	if e != api.OK || len(frame) != api.MaxFrame+16 || string(frame[:12]) != head(api.MaxFrame) {
		t.Fatalf("P15.1: Encode: %d bytes, %v", len(frame), e)
	}
	s := samples.Must(store.New(api.MaxCapacity))
	j := samples.Must(journal.Open(s, file))
	if a, b := j.Append(nil), j.Append(body); a != api.OK || b != api.OK || s.Used() != 16+len(frame) {
		t.Fatalf("P15.3: Append: %v, %v, %d used", a, b, s.Used())
	}
	j = samples.Must(journal.Open(s, file))
	if bodies := j.Bodies(); len(bodies) != 2 || len(bodies[0]) != 0 || !bytes.Equal(bodies[1], body) || j.Torn() != 0 {
		t.Errorf("P15.2: %d bodies, %d torn", len(bodies), j.Torn())
	}
	if bodies, whole := journal.Decode(frame[:len(frame)-1]); len(bodies) != 0 || whole != 0 {
		t.Errorf("P15.1: without its last byte: %d bodies, %d", len(bodies), whole)
	}
	frame[12+api.MaxFrame/2] ^= 1
	if bodies, whole := journal.Decode(frame); len(bodies) != 0 || whole != 0 {
		t.Errorf("P15.5: a bit of it turned: %d bodies, %d", len(bodies), whole)
	}
	body = append(body, 0)
	long := append([]byte(head(api.MaxFrame+1)), body...)
	long = append(long, number(journal.Check(body))...)
	if bodies, whole := journal.Decode(long); len(bodies) != 0 || whole != 0 {
		t.Errorf("P15.1: a frame of MaxFrame + 1 bytes: %d bodies, %d", len(bodies), whole)
	}
}

// P15.3: many frames, one by one.
func TestMany(t *testing.T) {
	t.Parallel()
	const n = 100000
	s := samples.Must(store.New(api.MaxCapacity))
	j := samples.Must(journal.Open(s, file))
	for i := range n {
		if e := j.Append([]byte(strconv.Itoa(i))); e != api.OK {
			t.Fatalf("P15.3: Append of %d: %v", i, e)
		}
	}
	s.Append(file, []byte("torn"))
	again := samples.Must(journal.Open(s, file))
	for _, k := range []*journal.Journal{j, again} {
		bodies := k.Bodies()
		if len(bodies) != n {
			t.Fatalf("P15.3: %d bodies, want %d", len(bodies), n)
		}
		for i, body := range bodies {
			if string(body) != strconv.Itoa(i) {
				t.Fatalf("P15.3: the body %d is %q", i, body)
			}
		}
	}
	whole := s.Used() - 4
	if again.Torn() != 4 || again.Cut() != api.OK || s.Used() != whole {
		t.Errorf("P15.3: Cut leaves %d bytes, want %d", s.Used(), whole)
	}
}

// P15.3: where there is no file, and as many others as there may be, the store's error of writing is told.
func TestMostNames(t *testing.T) {
	t.Parallel()
	others := make([]api.Blob, api.MaxNames)
	for i := range others {
		others[i].Name = "t/" + strconv.Itoa(10000000+i)
	}
	s := samples.Must(store.Load(others, 99))
	j := samples.Must(journal.Open(s, file))
	if e := j.Append([]byte("one")); e != api.ErrStoFull || s.Calls() != 0 {
		t.Errorf("P15.3: no room for a name: %v", e)
	}
	holdTold(t, "P15.3: no room for a name", j, nil, 0)
	s.Remove(others[0].Name)
	if e := j.Append([]byte("one")); e != api.OK || contents(s) != frameOf("one") {
		t.Errorf("P15.3: room for a name: %v, %q", e, contents(s))
	}
	holdTold(t, "P15.3: room for a name", j, []string{"one"}, 0)
}
