package tree

import (
	"strconv"
	"strings"

	"larder/api"
)

// The parts of the store in which files of packages stand.
const (
	treePart   = "t/"
	stagedPart = "n/"
)

// Kinds of the store's names, as Parse tells them.
const (
	kindOther  = 0
	kindTree   = 1
	kindStaged = 2
)

// maxStaged is the greatest number of a staged file behind its commit's.
const maxStaged = 1<<31 - 1

func isSeq(seq int) bool { return seq >= 0 && seq <= api.MaxSeq }

// CheckPath tells whether a path may be. (It need not fit ustar: control asks that of what it reads.)
func CheckPath(path string) api.Errno {
	if len(path) > api.MaxPath || !isVisible(path) {
		return api.ErrTreePath
	}
	for _, segment := range strings.Split(path, "/") {
		if segment == "" || segment == "." || segment == ".." {
			return api.ErrTreePath
		}
	}
	return api.OK
}

func isVisible(text string) bool {
	for i := range len(text) {
		if text[i] < 0x21 || text[i] > 0x7e {
			return false
		}
	}
	return true
}

// Name tells a tree's file's name on the store.
func Name(path string) (string, api.Errno) {
	if e := CheckPath(path); e != api.OK {
		return "", e
	}
	return treePart + path, api.OK
}

// Staged tells a staged file's name.
func Staged(seq, k int) (string, api.Errno) {
	if !isSeq(seq) || k < 0 || k > maxStaged {
		return "", api.ErrArg
	}
	return stagedName(seq, k), api.OK
}

func stagedName(seq, k int) string {
	return stagedPart + strconv.Itoa(seq) + "." + strconv.Itoa(k)
}

// Parse tells what a name of the store is: 1 a tree's file, 2 a staged one, 0 another.
func Parse(name string) (path string, seq, k int, kind int) {
	if path, ok := strings.CutPrefix(name, treePart); ok && CheckPath(path) == api.OK {
		return path, 0, 0, kindTree
	}
	if seq, k, ok := parseStaged(name); ok {
		return "", seq, k, kindStaged
	}
	return "", 0, 0, kindOther
}

// parseStaged reads a staged file's name.
func parseStaged(name string) (seq, k int, ok bool) {
	first, second, _ := strings.Cut(strings.TrimPrefix(name, stagedPart), ".")
	// What is no number comes out as one that the name does not have: it is written again, and held against the name.
	seq, _ = strconv.Atoi(first)
	k, _ = strconv.Atoi(second)
	if again, e := Staged(seq, k); e != api.OK || again != name {
		return 0, 0, false
	}
	return seq, k, true
}

func kindOf(name string) int {
	_, _, _, kind := Parse(name)
	return kind
}
