package journal

import (
	"bytes"

	"larder/api"
)

// A frame is the magic bytes, the body's length, the sum of these two, the body, the body's sum.
const (
	magic    = "LAR\x01"
	wordSize = 4
	saidSize = len(magic) + wordSize // what the head's sum is of
	headSize = saidSize + wordSize
	around   = headSize + wordSize // what a frame has beside its body
)

const polynomial = 0x82f63b78

// halves tells what each half of a byte, shifted out of a sum, leaves in it.
var halves [16]uint32

func init() {
	for half := range uint32(len(halves)) {
		halves[half] = shifted(half)
	}
}

// shifted takes four bits out of a sum, one by one.
func shifted(sum uint32) uint32 {
	for range 4 {
		odd := sum&1 == 1
		sum >>= 1
		if odd {
			sum ^= polynomial
		}
	}
	return sum
}

// Check tells the sum of some bytes.
func Check(data []byte) uint32 {
	sum := ^uint32(0)
	for _, b := range data {
		sum ^= uint32(b)
		sum = sum>>4 ^ halves[sum&15]
		sum = sum>>4 ^ halves[sum&15]
	}
	return ^sum
}

// Encode tells the frame of a body.
func Encode(body []byte) ([]byte, api.Errno) {
	if len(body) > api.MaxFrame {
		return nil, api.ErrJrnLong
	}
	frame := append(make([]byte, 0, around+len(body)), magic...)
	frame = appendWord(frame, uint32(len(body)))
	frame = appendWord(frame, Check(frame))
	frame = append(frame, body...)
	return appendWord(frame, Check(body)), api.OK
}

// Decode tells the bodies of the whole frames that bytes begin with, and how many bytes these are.
func Decode(data []byte) ([][]byte, int) {
	var bodies [][]byte
	whole := 0
	for {
		body, ok := first(data[whole:])
		if !ok {
			return bodies, whole
		}
		bodies = append(bodies, bytes.Clone(body))
		whole += around + len(body)
	}
}

// first tells the body of the frame that bytes begin with, if they do.
func first(data []byte) ([]byte, bool) {
	if len(data) < around {
		return nil, false
	}
	said, rest := data[:saidSize], data[headSize:]
	size := word(said[len(magic):])
	// The length is held against its bounds while it is unsigned: only then it fits any int.
	if string(said[:len(magic)]) != magic || word(data[saidSize:]) != Check(said) || size > api.MaxFrame {
		return nil, false
	}
	n := int(size)
	if n > len(rest)-wordSize || word(rest[n:]) != Check(rest[:n]) {
		return nil, false
	}
	return rest[:n], true
}

// word reads the little-endian number that bytes begin with.
func word(data []byte) uint32 {
	return uint32(data[0]) | uint32(data[1])<<8 | uint32(data[2])<<16 | uint32(data[3])<<24
}

func appendWord(data []byte, w uint32) []byte {
	return append(data, byte(w), byte(w>>8), byte(w>>16), byte(w>>24))
}
