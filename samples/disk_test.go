package samples_test

import (
	"maps"
	"testing"

	"larder/api"
	"larder/samples"
)

func TestDisk(t *testing.T) {
	files := map[string]string{"t/b": "12", "t/a": "", "d/status": "3"}
	s := samples.Disk(files, 99)
	if !maps.Equal(samples.Seen(s), files) || s.Capacity() != 99 || s.Pending() != 0 {
		t.Errorf("Disk, Seen = %q", samples.Seen(s))
	}
	if got, want := samples.Told(s), "0 0 3 99 false | d/status:1:3 t/a:0: t/b:2:12 | d/status:1:3 t/a:0: t/b:2:12"; got != want {
		t.Errorf("Told = %q, want %q", got, want)
	}
	s.Remove("t/b")
	s.Fuse(0)
	s.Sync()
	if got, want := samples.Told(s), "1 1 1 99 true | d/status:1:3 t/a:0: | d/status:1:3 t/a:0: t/b:2:12"; got != want {
		t.Errorf("Told = %q, want %q", got, want)
	}
	s.Crash(api.Choice{})
	if !maps.Equal(samples.Seen(s), files) || len(samples.Seen(samples.Disk(nil, 0))) > 0 {
		t.Errorf("Seen = %q", samples.Seen(s))
	}
}
