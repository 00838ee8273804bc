package control

import (
	"strings"

	"larder/api"
)

// What a ustar header has room for.
const (
	maxPrefix = 155
	maxRest   = 100
)

// CheckPath tells whether a path may be.
func CheckPath(path string) api.Errno {
	_, _, e := Split(path)
	return e
}

// Split tells a path's prefix and name in a ustar header.
func Split(path string) (prefix, name string, e api.Errno) {
	if len(path) > api.MaxPath || !allWithin(path, '!', '~') || !hasSegments(path) {
		return "", "", api.ErrCtlPath
	}
	if len(path) <= maxRest {
		return "", path, api.OK
	}
	// A slash further ahead leaves too much behind it.
	from := len(path) - maxRest - 1
	ahead, behind, parted := strings.Cut(path[from:], "/")
	if !parted || from+len(ahead) > maxPrefix {
		return "", "", api.ErrCtlPath
	}
	return path[:from+len(ahead)], behind, api.OK
}

// hasSegments tells whether a path's segments may all be.
func hasSegments(path string) bool {
	for _, segment := range strings.Split(path, "/") {
		if segment == "" || segment == "." || segment == ".." {
			return false
		}
	}
	return true
}
