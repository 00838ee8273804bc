package archive

import (
	"strconv"
	"strings"

	"larder/api"
)

// What an archive begins with, and what its three members are called.
const (
	magic       = "!<arch>\n"
	versionName = "debian-binary"
	controlName = "control.tar"
	dataName    = "data.tar"
	version     = "2.0\n"
)

// headSize is how many bytes a member's header has; the size stands from sizeFrom to sizeEnd.
const (
	headSize = 60
	sizeFrom = 48
	sizeEnd  = 58
)

// memberHead tells a member's header.
func memberHead(name string, size int) string {
	return blanksTo(16, name) + blanksTo(12, "0") + blanksTo(6, "0") + blanksTo(6, "0") + blanksTo(8, "100644") + blanksTo(sizeEnd-sizeFrom, strconv.Itoa(size)) + "`\n"
}

func blanksTo(size int, text string) string { return text + strings.Repeat(" ", size-len(text)) }

// takeMember tells the bytes of the member at the front, which must have that name, and what stands behind it.
func takeMember(data []byte, name string) (member, rest []byte, e api.Errno) {
	if len(data) < headSize {
		return nil, nil, api.ErrArcShort
	}
	size, ok := memberSize(string(data[:headSize]), name)
	if !ok {
		return nil, nil, api.ErrArcMember
	}
	data = data[headSize:]
	end := size + size%2
	if len(data) < end {
		return nil, nil, api.ErrArcShort
	}
	if end > size && data[size] != '\n' {
		return nil, nil, api.ErrArcPad
	}
	return data[:size], data[end:], api.OK
}

// memberSize tells the size that a header says, if it is that of the member of that name: one made anew of name and size is the same.
func memberSize(head, name string) (int, bool) {
	digits := strings.TrimRight(head[sizeFrom:sizeEnd], " ")
	size, err := strconv.Atoi(digits)
	if err != nil || size < 0 || head != memberHead(name, size) {
		return 0, false
	}
	return size, true
}
