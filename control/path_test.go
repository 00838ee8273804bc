package control_test

import (
	"regexp"
	"strings"
	"testing"

	"larder/api"
	"larder/control"
	"larder/samples"
)

// pathForm is a path's form but for its length; dotForm tells a segment that may not be.
var (
	pathForm = regexp.MustCompile(`^[!-.0-~]+(/[!-.0-~]+)*$`)
	dotForm  = regexp.MustCompile(`(^|/)\.\.?(/|$)`)
)

// oracleSplit tries every cut of a path, the shortest prefix first.
func oracleSplit(path string) (string, string, api.Errno) {
	if len(path) < 1 || len(path) > 256 || !pathForm.MatchString(path) || dotForm.MatchString(path) {
		return "", "", api.ErrCtlPath
	}
	if len(path) <= 100 {
		return "", path, api.OK
	}
	for i := range len(path) {
		if path[i] == '/' && i <= 155 && len(path)-i-1 <= 100 {
			return path[:i], path[i+1:], api.OK
		}
	}
	return "", "", api.ErrCtlPath
}

// holdPath holds Split and CheckPath of a path against the oracle.
func holdPath(t *testing.T, path string) {
	t.Helper()
	prefix, name, e := control.Split(path)
	wantPrefix, wantName, want := oracleSplit(path)
	if prefix != wantPrefix || name != wantName || e != want {
		t.Fatalf("P4.3: Split(%q) = %q, %q, %d, want %q, %q, %d", path, prefix, name, e, wantPrefix, wantName, want)
	}
	if e := control.CheckPath(path); e != want {
		t.Fatalf("P4.3: CheckPath(%q) = %d, want %d", path, e, want)
	}
}

// P4.3: the document's examples, and segments that may be though they look odd.
func TestPath(t *testing.T) {
	for _, path := range []string{"a", "usr/bin/x", "...", ".a", "a.", "..a/b..", "a/.../b", "-", "~", "!", "#:", strings.Repeat("a/", 49) + "aa"} {
		prefix, name, e := control.Split(path)
		if prefix != "" || name != path || e != api.OK || control.CheckPath(path) != api.OK {
			t.Errorf("P4.3: Split(%q) = %q, %q, %d", path, prefix, name, e)
		}
	}
	for _, path := range []string{"", "/", "/a", "a/", "a//b", "//", ".", "..", "./a", "../a", "a/.", "a/..", "a/./b", "a/../b", "a b", " a", "a ", "a\n", "a\x00", "a\x7f", "\x80", "é", strings.Repeat("a", 101)} {
		prefix, name, e := control.Split(path)
		if prefix != "" || name != "" || e != api.ErrCtlPath || control.CheckPath(path) != api.ErrCtlPath {
			t.Errorf("P4.3: Split(%q) = %q, %q, %d", path, prefix, name, e)
		}
	}
	p, n := strings.Repeat("p", 155), strings.Repeat("n", 100)
	if prefix, name, e := control.Split(p + "/" + n); prefix != p || name != n || e != api.OK {
		t.Errorf("P4.3: Split at both bounds = %q, %q, %d", prefix, name, e)
	}
}

// P4.3: all small texts.
func TestPathSmall(t *testing.T) {
	for _, path := range samples.Texts([]string{"a", ".", "/", "~", " "}, 6) {
		holdPath(t, path)
	}
}

// P4.3: each byte in each place of a segment.
func TestPathBytes(t *testing.T) {
	for b := range 256 {
		s := string([]byte{byte(b)})
		for _, path := range []string{s, s + "a", "a" + s, "a" + s + "b", "a/" + s, s + "/a", "a/" + s + "/b", strings.Repeat("x", 60) + s + strings.Repeat("y", 60)} {
			holdPath(t, path)
		}
	}
}

// P4.3: paths of every length about the bounds, with a slash, and with two, in each place.
func TestPathLengths(t *testing.T) {
	for _, n := range []int{1, 2, 99, 100, 101, 102, 154, 155, 156, 157, 200, 201, 202, 254, 255, 256, 257, 258} {
		whole := strings.Repeat("x", n)
		holdPath(t, whole)
		for i := range n {
			one := whole[:i] + "/" + whole[i+1:]
			holdPath(t, one)
			for j := i % 3; j < n; j += 3 {
				holdPath(t, one[:j]+"/"+one[j+1:])
			}
		}
	}
	for _, n := range []int{100, 101, 255, 256, 257, 1000} {
		holdPath(t, strings.Repeat("a/", n)[:n-1]+"a")
		holdPath(t, strings.Repeat("/", n))
		holdPath(t, strings.Repeat("a/", n)[:n-2]+"..")
	}
}
