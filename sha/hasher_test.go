package sha_test

import (
	"bytes"
	"crypto/sha256"
	"testing"

	"larder/samples"
	"larder/sha"
)

// holds tells whether a hasher has taken in just these bytes, asked twice.
func holds(h *sha.Hasher, data []byte) bool {
	want := sha256.Sum256(data)
	return h.Sum() == want && h.Len() == len(data) && h.Sum() == want && h.Len() == len(data)
}

func TestHasherOfAllPairsOfPieces(t *testing.T) {
	data := mixed(150)
	for i := range len(data) + 1 {
		for j := i; j <= len(data); j++ {
			h := sha.New()
			for _, piece := range [][]byte{data[:i], nil, data[i:j], {}} {
				h.Write(piece)
			}
			if !holds(h, data[:j]) {
				t.Fatalf("P6.3: behind pieces of %d and %d bytes: %x, %d", i, j-i, h.Sum(), h.Len())
			}
		}
	}
}

func TestHasherAskedAtEachByte(t *testing.T) {
	data := mixed(300)
	var zero sha.Hasher
	made := sha.New()
	for n := range len(data) + 1 {
		if !holds(made, data[:n]) || !holds(&zero, data[:n]) {
			t.Fatalf("P6.3: behind %d bytes: New's %x, %d, a zero one %x, %d", n, made.Sum(), made.Len(), zero.Sum(), zero.Len())
		}
		if n < len(data) {
			made.Write(data[n : n+1])
			zero.Write(data[n : n+1])
		}
	}
}

func TestHasherOfNil(t *testing.T) {
	var none *sha.Hasher
	none.Write(nil)
	none.Write(row(70))
	if none.Sum() != [32]byte{} || none.Len() != 0 || none != nil {
		t.Errorf("P6.3: of a nil hasher %x, %d", none.Sum(), none.Len())
	}
}

func TestHashersAreApart(t *testing.T) {
	a, b := sha.New(), sha.New()
	if a == nil || a == b {
		t.Fatal("P6.3: New answers no hasher of its own")
	}
	a.Write(row(70))
	b.Write([]byte("abc"))
	kept := *a
	a.Write(row(60))
	if !holds(a, append(row(70), row(60)...)) || !holds(b, []byte("abc")) || !holds(&kept, row(70)) {
		t.Error("P6.3: hashers share what they took in")
	}
	kept.Write([]byte{1})
	if !holds(&kept, append(row(70), 1)) || !holds(a, append(row(70), row(60)...)) {
		t.Error("P6.3: a copy of a hasher shares what it took in")
	}
	if !holds(sha.New(), nil) || sha.Sum() != sha256.Sum256(nil) {
		t.Error("same again: what a hasher took in counts in others")
	}
}

func TestHasherKeepsNothingOfItsArguments(t *testing.T) {
	for _, n := range []int{0, 1, 63, 64, 65, 130} {
		data := samples.Roomy(mixed(n), 7)
		room := bytes.Clone(data[:cap(data)])
		h := sha.New()
		h.Write(data)
		if !bytes.Equal(data[:cap(data)], room) {
			t.Errorf("memory: Write of %d bytes wrote into them", n)
		}
		all := data[:cap(data)]
		clear(all)
		if !holds(h, mixed(n)) {
			t.Errorf("memory: what was done with %d bytes later changes the digest", n)
		}
		sum := h.Sum()
		clear(sum[:])
		if !holds(h, mixed(n)) {
			t.Errorf("memory: what was done with a digest of %d bytes changes the next one", n)
		}
	}
}
