package shell_test

import (
	"crypto/sha256"
	"encoding/hex"
	"fmt"
	"math/big"
	"regexp"
	"slices"
	"sort"
	"strings"

	"larder/api"
	"larder/archive"
	"larder/control"
	"larder/front"
	"larder/history"
	"larder/stanza"
	"larder/store"
)

// model plays scripts as the document's words have it: its lines are told apart by patterns, and what they tell is written out where they are played.
type model struct {
	d        *store.Store
	f        *front.Front
	index    string
	archives []api.Blob
	r        api.Request
	told     string
}

// modelRun is P24.2.
func modelRun(image []api.Blob, capacity int, script string) (string, []api.Blob) {
	d, e := store.Load(image, capacity)
	if e != api.OK {
		return fmt.Sprintf("error %d\n", e), image
	}
	m := &model{d: d, r: api.Request{Budget: 1000000}}
	if m.f, e = front.Open(d); e != api.OK {
		m.say("error %d", e)
	}
	lines := strings.Split(script, "\n")
	for i := 0; i < len(lines); i++ {
		words, is := commandOf(lines[i])
		switch {
		case strings.HasPrefix(lines[i], "#") || strings.Trim(lines[i], " ") == "":
		case !is:
			m.say("error 240")
		case words[0] == "index" || words[0] == "make":
			size := slices.Index(lines[i+1:], "end")
			if size < 0 {
				m.say("error 241")
				return m.told, d.Image()
			}
			block := lines[i+1 : i+1+size]
			i += size + 1
			if words[0] == "index" {
				m.index += strings.Join(append(slices.Clone(block), ""), "\n")
				m.say("ok")
			} else if key, e := m.make(block); e != api.OK {
				m.say("error %d", e)
			} else {
				m.say("ok %s", key)
			}
		default:
			m.play(words)
		}
	}
	return m.told, d.Image()
}

func (m *model) say(form string, things ...any) { m.told += fmt.Sprintf(form, things...) + "\n" }

// done tells an error, or that there is none.
func (m *model) done(e api.Errno) {
	if e != api.OK {
		m.say("error %d", e)
	} else {
		m.say("ok")
	}
}

const (
	atomForm = `[^ <=>]+(?:(?:<<|<=|=|>=|>>)[^ ]+)?`
	wishForm = `(?:\^|[+-]` + atomForm + `)`
	dataForm = `(?:-|(?:[0-9a-f]{2})+)`
)

// lineForms are the patterns of lines, their words parted by one blank.
var lineForms = regexp.MustCompile(`^(?:` + strings.Join([]string{
	`index|make|sweep|undo|unpin|forget|list|paths|orphans|history|seq|audit|repair|reopen|sync|files|calls`,
	`(?:apply|plan|blame)(?: ` + wishForm + `)*`,
	`(?:hold|free|cat|owner|why|loss) [^ ]+`,
	`pin ` + atomForm + ` N`,
	`(?:budget|fuse|capacity) N`,
	`crash(?: N)*`,
	`mark [^ ]+ (?:manual|auto)`,
	`raw [^ ]+ ` + dataForm,
}, "|") + `)$`)

var numberForm = regexp.MustCompile(`^(?:0|[1-9][0-9]*)$`)

// commandOf tells a line's words, if it is a command.
func commandOf(line string) ([]string, bool) {
	if !regexp.MustCompile(`^[ -~]*$`).MatchString(line) {
		return nil, false
	}
	words := strings.Fields(line)
	form := slices.Clone(words)
	for i, word := range words {
		takes := i > 0 && slices.Contains([]string{"budget", "fuse", "capacity", "crash"}, words[0]) || i == 2 && words[0] == "pin"
		n, _ := new(big.Int).SetString(word, 10)
		if takes && numberForm.MatchString(word) && n.Cmp(new(big.Int).Lsh(big.NewInt(1), 60)) <= 0 {
			form[i] = "N"
		} else if takes {
			return nil, false
		}
	}
	return words, lineForms.MatchString(strings.Join(form, " "))
}

// numberIn reads a number that has its form.
func numberIn(word string) int {
	n, _ := new(big.Int).SetString(word, 10)
	return int(n.Int64())
}

// dataIn reads data that has its form.
func dataIn(word string) []byte {
	b, _ := hex.DecodeString(strings.TrimPrefix(word, "-"))
	return b
}

// atomIn reads an atom that has its form.
func atomIn(word string) api.Atom {
	parts := regexp.MustCompile(`^([^<=>]+)(<<|<=|=|>=|>>)?(.*)$`).FindStringSubmatch(word)
	ops := map[string]int{"": api.OpAny, "<<": api.OpLess, "<=": api.OpAtMost, "=": api.OpEqual, ">=": api.OpAtLeast, ">>": api.OpMore}
	return api.Atom{Name: parts[1], Op: ops[parts[2]], Version: parts[3]}
}

// make is the second half of P24.3.
func (m *model) make(lines []string) (string, api.Errno) {
	var text string
	var files []api.Blob
	for _, line := range lines {
		if strings.HasPrefix(line, "+") {
			parts := regexp.MustCompile(`^\+([!-~]*) +(` + dataForm + `) *$`).FindStringSubmatch(line)
			if parts == nil {
				return "", 240
			}
			files = append(files, api.Blob{Name: parts[1], Data: dataIn(parts[2])})
		} else {
			text += line + "\n"
		}
	}
	paragraphs, _, e := stanza.Parse([]byte(text))
	if e != api.OK {
		return "", e
	}
	odd := func(f api.Field) bool {
		return slices.Contains([]string{"files", "filename", "size", "sha256"}, strings.ToLower(f.Name))
	}
	if len(paragraphs) != 1 || slices.ContainsFunc(paragraphs[0], odd) {
		return "", 240
	}
	sort.SliceStable(files, func(i, k int) bool { return files[i].Name < files[k].Name })
	p, _, e := control.Read(paragraphs[0])
	if e == api.OK {
		p.Files, e = archive.Manifest(files)
	}
	var data, printed []byte
	if e == api.OK {
		data, e = archive.Build(p, files)
	}
	if e == api.OK {
		p.Archive = fmt.Sprintf("%s_%s.deb", p.Name, p.Version)
		p.Size, p.Sum = len(data), sha256.Sum256(data)
		printed, e = control.Print(p)
	}
	if e != api.OK {
		return "", e
	}
	if m.index != "" {
		m.index += "\n"
	}
	m.index += string(printed)
	m.archives = append(m.archives, api.Blob{Name: p.Archive, Data: data})
	return p.Name + "=" + p.Version, api.OK
}

// request tells the request of a line's words.
func (m *model) request(words []string) api.Request {
	r := m.r
	for _, word := range words {
		switch word[0] {
		case '^':
			r.Wishes = append(r.Wishes, api.Wish{Kind: api.WishUpgrade})
		case '+':
			r.Wishes = append(r.Wishes, api.Wish{Kind: api.WishInstall, Atom: atomIn(word[1:])})
		default:
			r.Wishes = append(r.Wishes, api.Wish{Kind: api.WishRemove, Atom: atomIn(word[1:])})
		}
	}
	return r
}

// outcome is P24.4's AN ANSWER.
func (m *model) outcome(o api.Outcome) {
	forms := map[int]string{
		api.AnswerNone:      "none",
		api.AnswerOk:        fmt.Sprintf("ok %d of %d", o.Done, o.Planned),
		api.AnswerMalformed: fmt.Sprintf("malformed %d %d", o.Line, o.Why),
		api.AnswerUnsat:     "unsat",
		api.AnswerCycle:     "cycle",
		api.AnswerBudget:    "budget",
		api.AnswerFull:      fmt.Sprintf("full %d of %d", o.Done, o.Planned),
		api.AnswerArchive:   fmt.Sprintf("archive %s=%s", o.Who.Name, o.Who.Version),
		api.AnswerPower:     fmt.Sprintf("power %d of %d", o.Done, o.Planned),
		api.AnswerRefused:   fmt.Sprintf("refused %d", o.Why),
	}
	m.say("%s", forms[o.Answer])
}

// keys tells keys, a line each.
func (m *model) keys(keys []api.Key, e api.Errno) {
	if e != api.OK {
		m.done(e)
		return
	}
	for _, k := range keys {
		m.say("%s=%s", k.Name, k.Version)
	}
	m.say("ok %d", len(keys))
}

func (m *model) wrong(list []api.Wrong, e api.Errno) {
	if e != api.OK {
		m.done(e)
		return
	}
	for _, w := range list {
		who := fmt.Sprintf(" %s=%s", w.Who.Name, w.Who.Version)
		if w.Who.Name+w.Who.Version == "" {
			who = ""
		}
		m.say("%d %s%s", w.Kind, w.Path, who)
	}
	m.say("ok %d", len(list))
}

// open makes the installer anew.
func (m *model) open() {
	var e api.Errno
	m.f, e = front.Open(m.d)
	if e != api.OK {
		m.f = nil
	}
	m.done(e)
}

// play plays a command that is no block.
func (m *model) play(words []string) {
	switch rest := words[1:]; words[0] {
	case "apply":
		m.outcome(m.f.Apply([]byte(m.index), m.request(rest), m.archives))
	case "plan":
		batches, o := m.f.Plan([]byte(m.index), m.request(rest))
		for _, b := range batches {
			line := "batch"
			for _, k := range b.Out {
				line += fmt.Sprintf(" -%s=%s", k.Name, k.Version)
			}
			for _, k := range b.In {
				line += fmt.Sprintf(" +%s=%s", k.Name, k.Version)
			}
			m.say("%s", line)
		}
		m.outcome(o)
	case "sweep":
		m.outcome(m.f.Sweep(m.r.Holds))
	case "undo":
		m.outcome(m.f.Undo(m.archives))
	case "blame":
		rules, verdict, e := m.f.Blame([]byte(m.index), m.request(rest))
		if e != api.OK {
			m.done(e)
		} else {
			m.say("ok %d %d", verdict, len(rules))
		}
	case "mark":
		m.done(m.f.Mark(rest[0], map[string]int{"manual": api.MarkManual, "auto": api.MarkAuto}[rest[1]]))
	case "repair":
		m.wrong(m.f.Repair(m.archives))
	default:
		if !m.prepare(words[0], rest) && !m.ask(words[0], rest) {
			m.touch(words[0], rest)
		}
	}
}

// prepare plays what is for later lines.
func (m *model) prepare(word string, rest []string) bool {
	switch word {
	case "hold":
		if !slices.Contains(m.r.Holds, rest[0]) {
			m.r.Holds = append(m.r.Holds, rest[0])
		}
	case "free":
		var holds []string
		for _, hold := range m.r.Holds {
			if hold != rest[0] {
				holds = append(holds, hold)
			}
		}
		m.r.Holds = holds
	case "pin":
		a := atomIn(rest[0])
		m.r.Pins = append(m.r.Pins, api.Pin{Name: a.Name, Op: a.Op, Version: a.Version, Priority: numberIn(rest[1])})
	case "unpin":
		m.r.Pins = nil
	case "budget":
		m.r.Budget = numberIn(rest[0])
	case "forget":
		m.index, m.archives = "", nil
	default:
		return false
	}
	m.say("ok")
	return true
}

// ask plays what changes nothing.
func (m *model) ask(word string, rest []string) bool {
	switch word {
	case "list":
		for _, h := range m.f.Query() {
			m.say("%s=%s %s", h.Name, h.Version, []string{"manual", "auto"}[h.Mark])
		}
		m.say("ok %d", len(m.f.Query()))
	case "paths":
		for _, path := range m.f.Paths() {
			m.say("%s", path)
		}
		m.say("ok %d", len(m.f.Paths()))
	case "cat":
		b, e := m.f.Read(rest[0])
		switch {
		case e != api.OK:
			m.done(e)
		case len(b) == 0:
			m.say("ok -")
		default:
			m.say("ok %x", b)
		}
	case "owner":
		if k, is := m.f.Owner(rest[0]); is {
			m.say("ok %s=%s", k.Name, k.Version)
		} else {
			m.say("ok none")
		}
	case "orphans":
		m.keys(m.f.Orphans(m.r.Holds), api.OK)
	case "history":
		m.told += history.Text(m.f.History())
		m.say("ok %d", len(m.f.History()))
	case "seq":
		m.say("ok %d", m.f.Seq())
	case "why":
		m.keys(m.f.Chain(rest[0]))
	case "audit":
		m.wrong(m.f.Audit())
	case "files":
		for _, b := range m.d.Image() {
			m.say("%s %d", b.Name, len(b.Data))
		}
		m.say("ok %d", len(m.d.Image()))
	case "calls":
		m.say("ok %d", m.d.Calls())
	default:
		return false
	}
	return true
}

// touch plays what is done to the store.
func (m *model) touch(word string, rest []string) {
	switch word {
	case "fuse":
		m.d.Fuse(numberIn(rest[0]))
		m.say("ok")
	case "crash":
		var kept []int
		for _, word := range rest {
			kept = append(kept, numberIn(word))
		}
		m.d.Crash(api.Choice{Kept: kept})
		m.open()
	case "reopen":
		m.open()
	case "capacity":
		m.done(m.d.SetCapacity(numberIn(rest[0])))
	case "sync":
		m.done(m.d.Sync())
	case "raw", "loss":
		e := api.OK
		if word == "raw" {
			e = m.d.Write(rest[0], dataIn(rest[1]))
		} else {
			e = m.d.Remove(rest[0])
		}
		if !strings.HasPrefix(rest[0], "t/") {
			m.f = nil
		}
		m.done(e)
	default:
		panic(word)
	}
}
