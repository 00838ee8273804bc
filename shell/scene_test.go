package shell_test

import (
	"fmt"
	"strings"
	"testing"

	"larder/api"
	"larder/shell"
)

// room is enough for all that tests without care of it do.
const room = 1 << 20

// act is some lines of a script, and what they tell.
type act struct {
	lines []string
	told  string
}

// acts reads a transcript: lines that begin with `> ` are a script's, those behind them are what they tell. A line `@ aa 1; +x 6869; Depends: bb` makes a package, and tells that it did.
func acts(transcript string) []act {
	list := []act{{}}
	for _, line := range strings.Split(strings.Trim(transcript, "\n"), "\n") {
		last := &list[len(list)-1]
		script, asks := strings.CutPrefix(line, "> ")
		made, makes := strings.CutPrefix(line, "@ ")
		if (asks || makes) && last.told != "" {
			list = append(list, act{})
			last = &list[len(list)-1]
		}
		switch {
		case asks:
			last.lines = append(last.lines, script)
		case makes:
			last.lines = append(last.lines, making(made)...)
			key, _, _ := strings.Cut(made, ";")
			last.told = "ok " + strings.ReplaceAll(key, " ", "=") + "\n"
		default:
			last.told += line + "\n"
		}
	}
	return list
}

// making tells the lines that make a package, which is told as `aa 1; +x 6869; Depends: bb`.
func making(text string) []string {
	parts := strings.Split(text, "; ")
	name, version, _ := strings.Cut(parts[0], " ")
	lines := append([]string{"make", "Package: " + name, "Version: " + version}, parts[1:]...)
	return append(lines, "end")
}

// scene plays a transcript over nothing, and tells the files behind it.
func scene(t *testing.T, what, transcript string) []api.Blob {
	t.Helper()
	return sceneOver(t, what, nil, transcript)
}

// sceneOver plays a transcript over a store's files, and tells the files behind it. It is played act by act, each time from the beginning on, so that each answer is known to be that of its lines.
func sceneOver(t *testing.T, what string, image []api.Blob, transcript string) (behind []api.Blob) {
	t.Helper()
	var lines []string
	want := ""
	for _, a := range acts(transcript) {
		lines = append(lines, a.lines...)
		var got string
		got, behind = shell.Run(image, room, strings.Join(lines, "\n"))
		if got != want+a.told {
			t.Fatalf("%s: line %d: behind\n%s\nis told\n%s\nand it should be\n%s", what, len(lines), strings.Join(lines[max(0, len(lines)-9):], "\n"), strings.TrimPrefix(got, want), a.told)
		}
		want = got
	}
	return behind
}

// tells tells what a script over nothing tells.
func tells(script string) string {
	told, _ := shell.Run(nil, room, script)
	return told
}

// seen tells files as text.
func seen(image []api.Blob) string {
	var text strings.Builder
	for _, b := range image {
		fmt.Fprintf(&text, "%s:%q ", b.Name, b.Data)
	}
	return text.String()
}
