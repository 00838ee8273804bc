package sha

const (
	blockSize  = 64
	lengthSize = 8
)

// squareRoots is the chapter's H: what the digest of no blocks at all would be.
var squareRoots = [8]uint32{
	0x6a09e667, 0xbb67ae85, 0x3c6ef372, 0xa54ff53a,
	0x510e527f, 0x9b05688c, 0x1f83d9ab, 0x5be0cd19,
}

// Hasher takes a text in pieces.
type Hasher struct {
	// The state is kept as what the blocks have added to H, so that a zero Hasher has taken in nothing.
	added  [8]uint32
	block  [blockSize]byte
	length int
}

// New makes a hasher that has taken in nothing.
func New() *Hasher { return &Hasher{} }

// Write takes more bytes in.
func (h *Hasher) Write(data []byte) {
	if h == nil {
		return
	}
	for len(data) > 0 {
		taken := copy(h.block[h.length%blockSize:], data)
		data = data[taken:]
		h.length += taken
		if h.length%blockSize == 0 {
			h.mix()
		}
	}
}

// Sum tells the digest of all bytes so far; more may follow.
func (h *Hasher) Sum() [32]byte {
	var sum [32]byte
	if h == nil {
		return sum
	}
	whole := *h
	whole.fill()
	for i, word := range whole.state() {
		putWord(sum[4*i:], word)
	}
	return sum
}

// Len tells how many there were.
func (h *Hasher) Len() int {
	if h == nil {
		return 0
	}
	return h.length
}

// fill takes in what stands behind the last byte, so that the blocks are whole.
func (h *Hasher) fill() {
	bits := 8 * uint64(h.length)
	filling := [blockSize + lengthSize]byte{0x80}
	size := blockSize - (h.length+lengthSize)%blockSize
	putWord(filling[size:], uint32(bits>>32))
	putWord(filling[size+4:], uint32(bits))
	h.Write(filling[:size+lengthSize])
}

// state tells the eight words behind the blocks so far.
func (h *Hasher) state() [8]uint32 {
	words := squareRoots
	for i, word := range h.added {
		words[i] += word
	}
	return words
}

// mix goes a block's way.
func (h *Hasher) mix() {
	ahead := h.state()
	for i, word := range rounds(ahead, schedule(h.block)) {
		h.added[i] += word
	}
}

func getWord(from []byte) uint32 {
	return uint32(from[0])<<24 | uint32(from[1])<<16 | uint32(from[2])<<8 | uint32(from[3])
}

func putWord(to []byte, word uint32) {
	to[0], to[1], to[2], to[3] = byte(word>>24), byte(word>>16), byte(word>>8), byte(word)
}
