package status

import (
	"bytes"

	"larder/api"
	"larder/control"
	"larder/index"
)

// What a body is, its first byte tells.
const (
	ofCommit = 1
	ofState  = 2
)

// How many bytes a number has.
const (
	byteSize = 1
	wordSize = 4
	longSize = 8
)

// EncodeCommit tells a commit's body.
func EncodeCommit(c api.Commit) ([]byte, api.Errno) {
	if e := CheckCommit(c); e != api.OK {
		return nil, e
	}
	var w walk
	w.commit(&c)
	return w.written()
}

// DecodeCommit reads it. (That it is written just so tells what reading alone would let pass: a package printed otherwise, bytes behind.)
func DecodeCommit(b []byte) (api.Commit, api.Errno) {
	var c api.Commit
	w := reading(b)
	w.commit(&c)
	if w.failed {
		return api.Commit{}, api.ErrStaForm
	}
	if again, e := EncodeCommit(c); e != api.OK || !bytes.Equal(again, b) {
		return api.Commit{}, api.ErrStaForm
	}
	return c, api.OK
}

// Encode tells a checkpoint's body.
func Encode(s api.State) ([]byte, api.Errno) {
	if e := Check(s); e != api.OK {
		return nil, e
	}
	var w walk
	w.state(&s)
	return w.written()
}

// Decode reads it, as DecodeCommit does a commit.
func Decode(b []byte) (api.State, api.Errno) {
	var s api.State
	w := reading(b)
	w.state(&s)
	if w.failed {
		return api.State{}, api.ErrStaForm
	}
	if again, e := Encode(s); e != api.OK || !bytes.Equal(again, b) {
		return api.State{}, api.ErrStaForm
	}
	return s, api.OK
}

// buffer is a body's bytes: those that were written, or those that are still to be read.
type buffer struct {
	data   []byte
	failed bool // more bytes were written than a body may have, or asked for than there are
}

func (b *buffer) put(text string) {
	b.failed = b.failed || len(b.data)+len(text) > api.MaxFrame
	if !b.failed {
		b.data = append(b.data, text...)
	}
}

func (b *buffer) take(size int) string {
	b.failed = b.failed || size > len(b.data)
	if b.failed {
		return ""
	}
	text := string(b.data[:size])
	b.data = b.data[size:]
	return text
}

func (b *buffer) putNumber(n, size int) {
	var digits [longSize]byte
	for i := range size {
		digits[i] = byte(n >> (8 * i))
	}
	b.put(string(digits[:size]))
}

func (b *buffer) takeNumber(size int) int {
	text := b.take(size)
	n := 0
	for i := range len(text) {
		n |= int(text[i]) << (8 * i)
	}
	return n
}

// written tells the body that was written.
func (b *buffer) written() ([]byte, api.Errno) {
	if b.failed {
		return nil, api.ErrJrnLong
	}
	return b.data, api.OK
}

// walk goes over what a body is made of, part by part, and writes or reads it. (It is one walk for both, so that they can't come apart. What is written is not changed.)
type walk struct {
	buffer
	reads bool
}

func reading(b []byte) *walk { return &walk{buffer: buffer{data: b}, reads: true} }

func (w *walk) number(n *int, size int) {
	if w.reads {
		*n = w.takeNumber(size)
	} else {
		w.putNumber(*n, size)
	}
}

func (w *walk) text(s *string) {
	size := len(*s)
	w.number(&size, wordSize)
	if w.reads {
		*s = w.take(size)
	} else {
		w.put(*s)
	}
}

// list goes over a list's items; one with more than it may have is not read to its end.
func list[T any](w *walk, items *[]T, most int, item func(*T)) {
	count := len(*items)
	w.number(&count, wordSize)
	w.failed = w.failed || count > most
	for i := 0; i < count && !w.failed; i++ {
		if w.reads {
			var blank T
			*items = append(*items, blank)
		}
		item(&(*items)[i])
	}
}

func (w *walk) kind(want int) {
	kind := want
	w.number(&kind, byteSize)
	w.failed = w.failed || kind != want
}

func (w *walk) key(k *api.Key) {
	w.text(&k.Name)
	w.text(&k.Version)
}

// stanza goes over a package as the text that is printed of it.
func (w *walk) stanza(p *api.Package) {
	if w.reads {
		text := ""
		w.text(&text)
		*p = w.parsed(text)
		return
	}
	printed, _ := control.Print(*p)
	text := string(printed)
	w.text(&text)
}

// parsed tells the one package that a text is of.
func (w *walk) parsed(text string) api.Package {
	packages, _, e := index.Parse([]byte(text))
	if e != api.OK || len(packages) != 1 {
		w.failed = true
		return api.Package{}
	}
	return packages[0]
}

func (w *walk) held(h *api.Held) {
	w.number(&h.Mark, byteSize)
	w.stanza(&h.Package)
}

func (w *walk) step(s *api.Step) {
	w.number(&s.Kind, byteSize)
	w.text(&s.From)
	w.text(&s.To)
}

func (w *walk) entry(entry *api.Entry) {
	w.number(&entry.Seq, longSize)
	w.number(&entry.Group, longSize)
	list(w, &entry.Out, api.MaxFrame, w.key)
	list(w, &entry.In, api.MaxFrame, w.key)
}

func (w *walk) commit(c *api.Commit) {
	w.kind(ofCommit)
	w.number(&c.Seq, longSize)
	w.number(&c.Group, longSize)
	list(w, &c.Out, api.MaxFrame, w.text)
	list(w, &c.In, api.MaxUniverse, w.held)
	list(w, &c.Marks, api.MaxFrame, w.text)
	list(w, &c.Steps, api.MaxFrame, w.step)
}

func (w *walk) state(s *api.State) {
	w.kind(ofState)
	w.number(&s.Seq, longSize)
	w.number(&s.Group, longSize)
	list(w, &s.Held, api.MaxUniverse, w.held)
	list(w, &s.Before, api.MaxUniverse, w.held)
	list(w, &s.Past, api.MaxPast, w.entry)
}
