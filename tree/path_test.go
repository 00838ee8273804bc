package tree_test

import (
	"math"
	"strconv"
	"strings"
	"testing"

	"larder/api"
	"larder/samples"
	"larder/tree"
)

// holdPath holds what is told of a path against the oracle.
func holdPath(t *testing.T, path string) {
	t.Helper()
	want, wantName := api.OK, "t/"+path
	if !isPath(path) {
		want, wantName = api.ErrTreePath, ""
	}
	if e := tree.CheckPath(path); e != want {
		t.Errorf("P17.1: CheckPath(%q) = %v, want %v", path, e, want)
	}
	if name, e := tree.Name(path); name != wantName || e != want {
		t.Errorf("P17.1: Name(%q) = %q, %v, want %q, %v", path, name, e, wantName, want)
	}
}

// holdName holds what Parse tells of a name against the oracle.
func holdName(t *testing.T, name string) {
	t.Helper()
	path, seq, k, kind := tree.Parse(name)
	wantPath, wantSeq, wantK, wantKind := parsed(name)
	if path != wantPath || seq != wantSeq || k != wantK || kind != wantKind {
		t.Errorf("P17.1: Parse(%q) = %q, %d, %d, %d, want %q, %d, %d, %d", name, path, seq, k, kind, wantPath, wantSeq, wantK, wantKind)
	}
}

// P17.1: the example's paths and the edges.
func TestPaths(t *testing.T) {
	t.Parallel()
	long := strings.Repeat("a", 255)
	right := []string{"usr/bin/x", "a", "!", "~", "...", ".a", "a.", "..a", "a..", "a/...", ".../a", "a/.b/c.", "-", "\\", "a:b", long, long + "a", strings.Repeat("a/", 127) + "ab", strings.Repeat("a", 101), "t/a", "n/0.0"}
	wrong := []string{"", "/", "//", "/a", "a/", "a//b", "a///b", "//a", "a//", ".", "..", "./a", "../a", "a/.", "a/..", "a/./b", "a/../b", "a b", " a", "a ", "a\x00", "\x20", "a\x7f", "\x80", "é", "a\n", "\xff", long + "aa", long + "/a", "a/" + long, strings.Repeat("a/", 128) + "a", strings.Repeat("/", 256), strings.Repeat("a", 1<<20)}
	for _, path := range right {
		if e := tree.CheckPath(path); e != api.OK {
			t.Errorf("P17.1: CheckPath(%q) = %v", path, e)
		}
		if name, e := tree.Name(path); name != "t/"+path || e != api.OK {
			t.Errorf("P17.1: Name(%q) = %q, %v", path, name, e)
		}
		holdPath(t, path)
		holdName(t, "t/"+path)
	}
	for _, path := range wrong {
		if e := tree.CheckPath(path); e != api.ErrTreePath {
			t.Errorf("P17.1: CheckPath(%.300q) = %v", path, e)
		}
		if name, e := tree.Name(path); name != "" || e != api.ErrTreePath {
			t.Errorf("P17.1: Name(%.300q) = %q, %v", path, name, e)
		}
		holdPath(t, path)
		holdName(t, "t/"+path)
	}
}

// P17.1: each byte alone, at the beginning, in the midst and at the end.
func TestBytesOfPaths(t *testing.T) {
	t.Parallel()
	for b := range 256 {
		c := string([]byte{byte(b)})
		for _, path := range []string{c, c + "a", "a" + c, "a" + c + "a", "a/" + c, c + "/a", "a/" + c + "/b"} {
			holdPath(t, path)
			holdName(t, "t/"+path)
		}
		for _, name := range []string{c, c + "/a", "t" + c + "a", "n/" + c + ".0", "n/0." + c, "n/1" + c + "0", "n/1" + c + ".0", "n/" + c + "1.1", "n/1." + c + "1", "n/1.1" + c, "n" + c + "0.0", c + "/0.0"} {
			holdName(t, name)
		}
	}
}

// P17.1: all texts of few pieces, as paths and as names.
func TestSmallPaths(t *testing.T) {
	t.Parallel()
	for _, text := range samples.Texts([]string{"a", ".", "/", " "}, 7) {
		holdPath(t, text)
		holdName(t, "t/"+text)
	}
	for _, text := range samples.Texts([]string{"n/", "t/", "0", "1", "9", ".", "/", "-", "+", "_"}, 5) {
		holdName(t, text)
		holdName(t, "n/"+text)
	}
}

// P17.1: paths of all lengths about the bound, of one segment and of many.
func TestLongPaths(t *testing.T) {
	t.Parallel()
	for n := 90; n < 300; n++ {
		text := strings.Repeat("a", n)
		holdPath(t, text)
		for _, at := range []int{1, 50, 89} {
			cut := text[:at] + "/" + text[at+1:]
			holdPath(t, cut)
			holdName(t, "t/"+cut)
		}
	}
	longest := samples.Must(tree.Name(strings.Repeat("a", 256)))
	if e := diskOf("").store(9).Write(longest, nil); e != api.OK {
		t.Errorf("P17.1: the store does not take the longest name: %v", e)
	}
}

// P17.1: the numbers of staged files.
func TestStaged(t *testing.T) {
	t.Parallel()
	for _, c := range []struct {
		seq, k int
		want   string
	}{
		{7, 0, "n/7.0"}, {0, 0, "n/0.0"}, {0, 7, "n/0.7"}, {10, 100, "n/10.100"},
		{api.MaxSeq, 0, "n/281474976710655.0"}, {0, 1<<31 - 1, "n/0.2147483647"}, {api.MaxSeq, 1<<31 - 1, "n/281474976710655.2147483647"},
		{-1, 0, ""}, {0, -1, ""}, {-1, -1, ""}, {api.MaxSeq + 1, 0, ""}, {0, 1 << 31, ""}, {1 << 48, 1 << 31, ""},
		{math.MinInt, 0, ""}, {math.MaxInt, 0, ""}, {0, math.MinInt, ""}, {0, math.MaxInt, ""}, {1 << 32, 1 << 32, ""},
	} {
		want := api.OK
		if c.want == "" {
			want = api.ErrArg
		}
		if name, e := tree.Staged(c.seq, c.k); name != c.want || e != want {
			t.Errorf("P17.1: Staged(%d, %d) = %q, %v, want %q, %v", c.seq, c.k, name, e, c.want, want)
		}
		if c.want == "" {
			continue
		}
		if path, seq, k, kind := tree.Parse(c.want); path != "" || seq != c.seq || k != c.k || kind != 2 {
			t.Errorf("P17.1: Parse(%q) = %q, %d, %d, %d", c.want, path, seq, k, kind)
		}
	}
}

// P17.1: names that are none, and what stands about those that are.
func TestParse(t *testing.T) {
	t.Parallel()
	for _, name := range []string{
		"", "t", "n", "d", "/", "t/", "n/", "T/a", "N/0.0", "t/.", "t//a", "t/a/", "t/a b", "a", "a/t/a", "/t/a", " t/a", "t\\a", "d/status", "d/journal", "d/status.new", "tt/a", "nn/0.0",
		"n/0", "n/.", "n/.1", "n/7.", "n/0.0.0", "n/1.2.3", "n/1..2", "n/.1.2", "n/1.2.", "n/00.0", "n/0.00", "n/07.0", "n/7.00", "n/7.01", "n/+1.0", "n/1.+0", "n/-0.0", "n/0.-0", "n/-1.0", "n/1_0.0", "n/0x1.0", "n/1e3.0", "n/a.0", "n/0.a", "n/ 1.0", "n/1.0 ", "n/1 .0", "n/1. 0", "n/1.0\n", "n/1,0", "n/1/0", "0.0", "1.0", "t/n/1.0/", "nn/1.0", "n/n/1.0", "n//1.0",
		"n/281474976710656.0", "n/0.2147483648", "n/281474976710655.2147483648", "n/9223372036854775807.0", "n/9223372036854775808.0", "n/18446744073709551616.0", "n/18446744073709551617.0", "n/0.4294967296", "n/0.18446744073709551616", "n/-18446744073709551616.0", "n/" + strings.Repeat("9", 250) + ".0", "n/0." + strings.Repeat("0", 250), "n/١.٠",
	} {
		if path, seq, k, kind := tree.Parse(name); path != "" || seq != 0 || k != 0 || kind != 0 {
			t.Errorf("P17.1: Parse(%q) = %q, %d, %d, %d, want nothing", name, path, seq, k, kind)
		}
		holdName(t, name)
	}
	for _, name := range []string{"t/a", "t/n/1.0", "t/t/a", "t/d/status", "t/n", "t/0.0"} {
		if path, seq, k, kind := tree.Parse(name); path != name[2:] || seq != 0 || k != 0 || kind != 1 {
			t.Errorf("P17.1: Parse(%q) = %q, %d, %d, %d", name, path, seq, k, kind)
		}
	}
	for n := range 3000 {
		name := "n/" + strconv.Itoa(n*n*n*n) + "." + strconv.Itoa(n*n*n)
		holdName(t, name)
	}
	bounds := []string{"0", "1", "2147483646", "2147483647", "2147483648", "4294967295", "281474976710654", "281474976710655", "281474976710656", "9223372036854775807"}
	for _, seq := range bounds {
		for _, k := range bounds {
			holdName(t, "n/"+seq+"."+k)
		}
	}
}
