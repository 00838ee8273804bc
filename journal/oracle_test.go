package journal_test

import (
	"slices"
	"strconv"
	"strings"
	"testing"

	"larder/api"
	"larder/journal"
	"larder/samples"
	"larder/store"
)

// sum is Check, word by word as the chapter tells it.
func sum(data string) uint32 {
	r := uint64(1<<32 - 1)
	for i := range len(data) {
		r ^= uint64(data[i])
		for range 8 {
			odd := r%2 == 1
			r /= 2
			if odd {
				r ^= 0x82f63b78
			}
		}
	}
	return uint32(1<<32 - 1 - r)
}

// number tells a number's four bytes, the least first.
func number(n uint32) string {
	return string([]byte{byte(n % 256), byte(n / 256 % 256), byte(n / 65536 % 256), byte(n / 16777216)})
}

// head tells a head that says such a length, with its sum.
func head(n uint32) string {
	said := "\x4c\x41\x52\x01" + number(n)
	return said + number(sum(said))
}

func frameOf(body string) string { return head(uint32(len(body))) + body + number(sum(body)) }

func framesOf(bodies ...string) string {
	text := ""
	for _, body := range bodies {
		text += frameOf(body)
	}
	return text
}

// wholePart finds, from the beginning on, the body whose frame stands there, by trying all lengths.
func wholePart(data string) ([]string, int) {
	var bodies []string
	at := 0
next:
	for {
		for n := range len(data) - at - 15 {
			if body := data[at+12 : at+12+n]; strings.HasPrefix(data[at:], frameOf(body)) {
				bodies = append(bodies, body)
				at += 16 + n
				continue next
			}
		}
		return bodies, at
	}
}

func texts(bodies [][]byte) []string {
	var list []string
	for _, body := range bodies {
		list = append(list, string(body))
	}
	return list
}

// image tells files as text.
func image(blobs []api.Blob) string {
	text := ""
	for _, b := range blobs {
		text += b.Name + ":" + strconv.Quote(string(b.Data)) + " "
	}
	return text
}

// told is all that a store tells.
type told struct {
	seen, durable        string
	calls, pending, used int
	dead                 bool
}

func toldBy(s *store.Store) told {
	return told{image(s.Image()), image(s.Durable()), s.Calls(), s.Pending(), s.Used(), s.Dead()}
}

const file = "d/journal"

// diskOf is a store with a journal's file of such bytes, all durable.
func diskOf(data string) *store.Store {
	return samples.Must(store.Load([]api.Blob{{Name: file, Data: []byte(data)}}, 9999))
}

func contents(s *store.Store) string {
	data, _ := s.Read(file)
	return string(data)
}

// holdTold holds what a journal tells.
func holdTold(t *testing.T, what string, j *journal.Journal, bodies []string, torn int) {
	t.Helper()
	if got := texts(j.Bodies()); !slices.Equal(got, bodies) || j.Torn() != torn {
		t.Fatalf("%s: %q, %d torn, want %q, %d torn", what, got, j.Torn(), bodies, torn)
	}
}

// opened opens the journal of a store and holds what it tells.
func opened(t *testing.T, what string, s *store.Store, bodies []string, torn int) *journal.Journal {
	t.Helper()
	ahead := toldBy(s)
	j, e := journal.Open(s, file)
	if j == nil || e != api.OK {
		t.Fatalf("%s: P15.2: Open: %v", what, e)
	}
	if toldBy(s) != ahead {
		t.Fatalf("%s: P15.2: Open changes something: %v, was %v", what, toldBy(s), ahead)
	}
	holdTold(t, what, j, bodies, torn)
	return j
}

// oracle is a journal as the chapter's words tell it, over a store of its own, on which just those calls are made that the chapter names.
type oracle struct {
	disk        *store.Store
	bodies      []string
	whole, torn int
}

func (o *oracle) there() bool {
	_, e := o.disk.Size(file)
	return e == api.OK
}

func (o *oracle) open() api.Errno {
	data, e := o.disk.Read(file)
	if e != api.OK && e != api.ErrStoNone {
		return e
	}
	o.bodies, o.whole = wholePart(string(data))
	o.torn = len(data) - o.whole
	return api.OK
}

func (o *oracle) cut() api.Errno {
	if o.torn == 0 {
		return api.OK
	}
	if e := o.disk.Truncate(file, o.whole); e != api.OK {
		return e
	}
	if e := o.disk.Sync(); e != api.OK {
		return e
	}
	o.torn = 0
	return api.OK
}

func (o *oracle) add(body string) api.Errno {
	if o.torn > 0 {
		return api.ErrJrnTorn
	}
	put := o.disk.Write
	if o.there() {
		put = o.disk.Append
	}
	if e := put(file, []byte(frameOf(body))); e != api.OK {
		return e
	}
	o.bodies = append(o.bodies, body)
	o.whole += 16 + len(body)
	return api.OK
}

func (o *oracle) reset() api.Errno {
	if o.there() {
		if e := o.disk.Remove(file); e != api.OK {
			return e
		}
	}
	if e := o.disk.Sync(); e != api.OK {
		return e
	}
	o.bodies, o.whole, o.torn = nil, 0, 0
	return api.OK
}
