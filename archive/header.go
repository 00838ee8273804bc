package archive

import (
	"bytes"

	"larder/api"
	"larder/control"
)

// blockSize is how many bytes a header has, and what a file's bytes are filled to a multiple of.
const blockSize = 512

// header is a ustar's header, held against another one whole.
type header [blockSize]byte

// The fields that hang on the file. None has room beyond its end, so that nothing laid into one runs into the next.
func (h *header) name() []byte   { return h[0:100:100] }
func (h *header) size() []byte   { return h[124:135:135] }
func (h *header) sum() []byte    { return h[148:154:154] }
func (h *header) prefix() []byte { return h[345:500:500] }

// headerOf tells the header of a file.
func headerOf(path string, size int) (header, api.Errno) {
	prefix, name, e := control.Split(path)
	if e != api.OK {
		return header{}, e
	}
	var h header
	copy(h.name(), name)
	copy(h[100:108:108], "0000644")
	copy(h[108:116:116], "0000000")
	copy(h[116:124:124], "0000000")
	layOctal(h.size(), size)
	copy(h[136:148:148], "00000000000")
	copy(h[156:157:157], "0")
	copy(h[257:265:265], "ustar\x0000")
	copy(h.prefix(), prefix)
	laySum(&h)
	return h, api.OK
}

// laySum comes last, since it counts all other bytes.
func laySum(h *header) {
	copy(h[148:156:156], "        ")
	total := 0
	for _, b := range h {
		total += int(b)
	}
	layOctal(h.sum(), total)
	h[154] = 0
}

// layOctal fills a field with a number's octal digits, noughts ahead.
func layOctal(field []byte, n int) {
	for i := len(field) - 1; i >= 0; i-- {
		field[i] = '0' + byte(n&7)
		n >>= 3
	}
}

// told tells a header's path and size, if it is the header of such a file. What it tells is first read without care: a header made anew of that is the same only if nothing was wrong.
func (h *header) told() (path string, size int, ok bool) {
	path = upToZero(h.name())
	if prefix := upToZero(h.prefix()); prefix != "" {
		path = prefix + "/" + path
	}
	for _, digit := range h.size() {
		size = size<<3 | int(digit&7)
	}
	made, e := headerOf(path, size)
	if e != api.OK || made != *h {
		return "", 0, false
	}
	return path, size, true
}

// upToZero tells what stands ahead of a field's first zero byte: a text that fills its field has none.
func upToZero(field []byte) string {
	text, _, _ := bytes.Cut(field, []byte{0})
	return string(text)
}
