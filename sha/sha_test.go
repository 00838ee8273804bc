package sha_test

import (
	"bytes"
	"crypto/sha256"
	"encoding/hex"
	"strings"
	"testing"

	"larder/api"
	"larder/samples"
	"larder/sha"
)

// row tells the bytes 0, 1, 2, .., so many.
func row(n int) []byte {
	b := make([]byte, n)
	for i := range b {
		b[i] = byte(i)
	}
	return b
}

// mixed tells so many bytes in which no block is like another one.
func mixed(n int) []byte {
	b := make([]byte, n)
	for i, x := 0, uint32(1); i < n; i++ {
		x = x*1664525 + 1013904223
		b[i] = byte(x >> 24)
	}
	return b
}

func TestSumOfKnownTexts(t *testing.T) {
	for _, c := range []struct {
		data []byte
		want string
	}{
		{nil, "e3b0c44298fc1c149afbf4c8996fb92427ae41e4649b934ca495991b7852b855"},
		{[]byte{}, "e3b0c44298fc1c149afbf4c8996fb92427ae41e4649b934ca495991b7852b855"},
		{[]byte("abc"), "ba7816bf8f01cfea414140de5dae2223b00361a396177a9cb410ff61f20015ad"},
		{row(55), "463eb28e72f82e0a96c0a4cc53690c571281131f672aa229e0d45ae59b598b59"},
		{row(56), "da2ae4d6b36748f2a318f23e7ab1dfdf45acdc9d049bd80e59de82a60895f562"},
		{row(64), "fdeab9acf3710362bd2658cdc9a29e8f9c757fcf9811603a8c447cd1d9151108"},
		{row(65), "4bfd2c8b6f1eec7a2afeb48b934ee4b2694182027e6d0fc075074f2fabb31781"},
		{[]byte("abcdbcdecdefdefgefghfghighijhijkijkljklmklmnlmnomnopnopq"), "248d6a61d20638b8e5c026930c3e6039a33ce45964ff2167f6ecedd419db06c1"},
		{bytes.Repeat([]byte("a"), 1000000), "cdc76e5c9914fb9281a1c7e284d73e67f1809a48a497200e046d39ccc7112cd0"},
	} {
		if got := hex.EncodeToString(sum(c.data)); got != c.want {
			t.Errorf("P6.1: the digest of %d bytes = %s, want %s", len(c.data), got, c.want)
		}
	}
	if sha.Sum() != sha256.Sum256(nil) {
		t.Errorf("P6.1: the digest of no parts = %x", sha.Sum())
	}
}

func sum(data []byte) []byte {
	s := sha.Sum(data)
	return s[:]
}

func TestSumOfAllLengths(t *testing.T) {
	data := mixed(5 * 64)
	for n := range len(data) + 1 {
		if got, want := sha.Sum(data[:n]), sha256.Sum256(data[:n]); got != want {
			t.Errorf("P6.1: the digest of %d bytes = %x, want %x", n, got, want)
		}
		for _, b := range []byte{0, 0x80, 0xff} {
			same := bytes.Repeat([]byte{b}, n)
			if got, want := sha.Sum(same), sha256.Sum256(same); got != want {
				t.Errorf("P6.1: the digest of %d bytes %x = %x, want %x", n, b, got, want)
			}
		}
	}
	long := mixed(api.MaxFile + 1)
	for _, n := range []int{1 << 16, api.MaxFile - 1, api.MaxFile, api.MaxFile + 1} {
		if got, want := sha.Sum(long[:n]), sha256.Sum256(long[:n]); got != want {
			t.Errorf("P6.1: the digest of %d bytes = %x, want %x", n, got, want)
		}
	}
}

func TestSumOfEachBit(t *testing.T) {
	for _, n := range []int{1, 64} {
		for i := range 8 * n {
			data := make([]byte, n)
			data[i/8] = 1 << (i % 8)
			if got, want := sha.Sum(data), sha256.Sum256(data); got != want {
				t.Errorf("P6.1: the digest of %x = %x, want %x", data, got, want)
			}
		}
	}
}

// The length in bits is told in 8 bytes: here the high half of them is not 0.
func TestSumOfManyBits(t *testing.T) {
	const chunk = 1 << 20
	data := mixed(chunk)
	var h sha.Hasher
	oracle := sha256.New()
	for range 1 << 29 / chunk {
		h.Write(data)
		oracle.Write(data)
	}
	h.Write(data[:9])
	oracle.Write(data[:9])
	if got := h.Sum(); !bytes.Equal(got[:], oracle.Sum(nil)) || h.Len() != 1<<29+9 {
		t.Errorf("P6.1: the digest of %d bytes = %x, want %x", h.Len(), got, oracle.Sum(nil))
	}
}

func TestSumOfParts(t *testing.T) {
	data := mixed(200)
	want := sha256.Sum256(data)
	for i := range len(data) + 1 {
		for j := i; j <= len(data); j++ {
			if got := sha.Sum(data[:i], data[i:j], data[j:]); got != want {
				t.Fatalf("P6.1: cut at %d and %d the digest is %x, want %x", i, j, got, want)
			}
		}
	}
	var parts [][]byte
	for i := range data {
		parts = append(parts, nil, data[i:i+1], []byte{})
	}
	if got := sha.Sum(parts...); got != want {
		t.Errorf("P6.1: byte by byte the digest is %x, want %x", got, want)
	}
	if got := sha.Sum(nil, []byte{}, nil); got != sha256.Sum256(nil) {
		t.Errorf("P6.1: of empty parts the digest is %x", got)
	}
	if sha.Sum([]byte("ab"), []byte("c")) == sha.Sum([]byte("c"), []byte("ab")) {
		t.Error("P6.1: the order of the parts does not count")
	}
}

func TestSumLeavesItsArguments(t *testing.T) {
	a, b := samples.Roomy(row(70), 1), samples.Roomy(row(3), 2)
	parts := samples.Roomy([][]byte{a, b}, []byte{3})
	roomA, roomB := bytes.Clone(a[:cap(a)]), bytes.Clone(b[:cap(b)])
	sha.Sum(parts...)
	room := parts[:cap(parts)]
	if !bytes.Equal(a[:cap(a)], roomA) || !bytes.Equal(b[:cap(b)], roomB) || &room[0][0] != &a[0] || &room[1][0] != &b[0] || len(room[0]) != 70 || len(room[1]) != 3 || room[2][0] != 3 || room[3][0] != 3 {
		t.Error("memory: Sum wrote into its arguments")
	}
}

func TestText(t *testing.T) {
	for at := range 32 {
		for b := range 256 {
			sum := [32]byte{0: 0xa5, 31: 0x5a}
			sum[at] = byte(b)
			text := sha.Text(sum)
			if text != hex.EncodeToString(sum[:]) {
				t.Fatalf("P6.2: Text(%x) = %q", sum, text)
			}
			if back, e := sha.Parse(text); back != sum || e != api.OK {
				t.Fatalf("P6.2, P6.4: Parse(%q) = %x, %d", text, back, e)
			}
		}
	}
}

func TestParseOfEachByte(t *testing.T) {
	good := "0123456789abcdef"
	for at := range 64 {
		for b := range 256 {
			digits := []byte(strings.Repeat(good, 4))
			digits[at] = byte(b)
			text := string(digits)
			sum, e := sha.Parse(text)
			if !strings.Contains(good, string([]byte{byte(b)})) {
				if sum != [32]byte{} || e != api.ErrShaText {
					t.Errorf("P6.2: Parse(%q) = %x, %d", text, sum, e)
				}
				continue
			}
			want, _ := hex.DecodeString(text)
			if e != api.OK || !bytes.Equal(sum[:], want) || sha.Text(sum) != text {
				t.Errorf("P6.2, P6.4: Parse(%q) = %x, %d, as text %q", text, sum, e, sha.Text(sum))
			}
		}
	}
}

func TestParseOfEachLength(t *testing.T) {
	for n := range 200 {
		text := strings.Repeat("a", n)
		want := api.ErrShaText
		if n == 64 {
			want = api.OK
		}
		if sum, e := sha.Parse(text); e != want || e != api.OK && sum != [32]byte{} {
			t.Errorf("P6.2: Parse of %d digits = %x, %d", n, sum, e)
		}
	}
	digits := strings.Repeat("0f", 32)
	for _, text := range []string{
		" " + digits, digits + " ", digits + "\n", "0x" + digits, "0x" + digits[2:], "-" + digits[1:], "+" + digits[1:],
		strings.ToUpper(digits), digits[:62] + "é", strings.Repeat("é", 32), strings.Repeat("é", 64), strings.Repeat("０", 64), digits + digits,
	} {
		if sum, e := sha.Parse(text); sum != [32]byte{} || e != api.ErrShaText {
			t.Errorf("P6.2: Parse(%q) = %x, %d", text, sum, e)
		}
	}
	if api.ErrShaText != 60 {
		t.Errorf("ErrShaText = %d", api.ErrShaText)
	}
}
