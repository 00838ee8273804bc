package sha

import "math/bits"

const roundCount = 64

// cubeRoots is the chapter's K, filled at the start.
var cubeRoots [roundCount]uint32

func init() {
	found := 0
	for n := uint64(2); found < roundCount; n++ {
		if isPrime(n) {
			cubeRoots[found] = cubeRootBits(n)
			found++
		}
	}
}

func isPrime(n uint64) bool {
	for d := uint64(2); d*d <= n; d++ {
		if n%d == 0 {
			return false
		}
	}
	return true
}

// cubeRootBits tells the first 32 bits behind the point of the cube root of n, which is no cube and less than 512.
// The root is found bit by bit, 3 of them ahead of the point, in whole numbers: floats would have to be trusted to the last bit.
func cubeRootBits(n uint64) uint32 {
	root := uint64(0)
	for bit := uint64(1) << 34; bit > 0; bit >>= 1 {
		if cubeHigh(root|bit) < n<<32 {
			root |= bit
		}
	}
	return uint32(root)
}

// cubeHigh tells the high 64 of the 128 bits of the cube of x, which is less than 1 << 42.
func cubeHigh(x uint64) uint64 {
	squareHigh, squareLow := bits.Mul64(x, x)
	high, _ := bits.Mul64(squareLow, x)
	return squareHigh*x + high
}

// schedule tells a block's words W.
func schedule(block [blockSize]byte) [roundCount]uint32 {
	var w [roundCount]uint32
	for t := range 16 {
		w[t] = getWord(block[4*t:])
	}
	for t := 16; t < roundCount; t++ {
		w[t] = small1(w[t-2]) + w[t-7] + small0(w[t-15]) + w[t-16]
	}
	return w
}

// rounds tells what the eight words have become behind all rounds with W.
func rounds(words [8]uint32, w [roundCount]uint32) [8]uint32 {
	a, b, c, d, e, f, g, h := words[0], words[1], words[2], words[3], words[4], words[5], words[6], words[7]
	for t, k := range cubeRoots {
		t1 := h + big1(e) + ((e & f) ^ (^e & g)) + k + w[t]
		t2 := big0(a) + ((a & b) ^ (a & c) ^ (b & c))
		h, g, f, e = g, f, e, d+t1
		d, c, b, a = c, b, a, t1+t2
	}
	return [8]uint32{a, b, c, d, e, f, g, h}
}

func right(x uint32, n int) uint32 { return bits.RotateLeft32(x, -n) }

func small0(x uint32) uint32 { return right(x, 7) ^ right(x, 18) ^ x>>3 }

func small1(x uint32) uint32 { return right(x, 17) ^ right(x, 19) ^ x>>10 }

func big0(x uint32) uint32 { return right(x, 2) ^ right(x, 13) ^ right(x, 22) }

func big1(x uint32) uint32 { return right(x, 6) ^ right(x, 11) ^ right(x, 25) }
