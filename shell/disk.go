package shell

import (
	"strconv"
	"strings"

	"larder/api"
)

func (s *session) fuse(args []value) {
	s.disk.Fuse(args[0].number)
	s.tell("ok")
}

func (s *session) crash(args []value) {
	var c api.Choice
	for _, v := range args {
		c.Kept = append(c.Kept, v.number)
	}
	s.disk.Crash(c)
	s.tellError(s.open())
}

func (s *session) reopen([]value) { s.tellError(s.open()) }

func (s *session) capacity(args []value) { s.tellError(s.disk.SetCapacity(args[0].number)) }

func (s *session) raw(args []value) {
	s.tellTouched(args[0].text, s.disk.Write(args[0].text, args[1].data))
}

func (s *session) loss(args []value) { s.tellTouched(args[0].text, s.disk.Remove(args[0].text)) }

// tellTouched tells how a file was written or removed behind the installer's back. An installer knows nothing of what others do to its own files: it is none any more.
func (s *session) tellTouched(name string, e api.Errno) {
	if !strings.HasPrefix(name, "t/") {
		s.front = nil
	}
	s.tellError(e)
}

func (s *session) sync([]value) { s.tellError(s.disk.Sync()) }

func (s *session) files([]value) {
	tellList(s, s.disk.Image(), func(b api.Blob) string { return b.Name + " " + strconv.Itoa(len(b.Data)) })
}

func (s *session) calls([]value) { s.tellCount(s.disk.Calls()) }
