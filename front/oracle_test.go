package front_test

import (
	"crypto/sha256"
	"fmt"
	"slices"
	"strconv"
	"strings"
	"testing"

	"larder/api"
	"larder/archive"
	"larder/audit"
	"larder/exec"
	"larder/front"
	"larder/history"
	"larder/index"
	"larder/installed"
	"larder/order"
	"larder/orphans"
	"larder/relation"
	"larder/resolve"
	"larder/samples"
	"larder/store"
	"larder/valid"
	"larder/why"
)

// room is enough for all that tests without care of it do.
const room = 1 << 20

// told tells things as text; nil and empty are one.
func told(things ...any) string { return fmt.Sprintf("%+v", things) }

// shelf is what a caller has of some packages.
type shelf struct {
	held     []api.Held
	index    []byte
	archives []api.Blob
}

// stocked reads packages as samples.AllMade does, marks left out; one with the word `loose` has no archive.
func stocked(text string) shelf {
	var s shelf
	for _, part := range samples.Parts(text) {
		words, loose := strings.CutSuffix(part, " loose")
		h, a := samples.Made(words)
		if loose {
			h.Archive, h.Size, h.Sum = "", 0, [32]byte{}
		} else {
			s.archives = append(s.archives, a)
		}
		s.held = append(s.held, h)
	}
	s.index = samples.Must(index.Print(installed.Packages(s.held)))
	return s
}

// asks reads a request as samples.Wishes does, with `hold aa` and `budget 7` among the wishes.
func asks(text string) api.Request {
	r := api.Request{Budget: 1000000}
	for _, part := range samples.Parts(text) {
		what, rest, _ := strings.Cut(part, " ")
		switch what {
		case "hold":
			r.Holds = append(r.Holds, rest)
		case "budget":
			r.Budget, _ = strconv.Atoi(rest)
		default:
			r.Wishes = append(r.Wishes, samples.Wish(part))
		}
	}
	return r
}

// model is an installer as the document's words have it, over what stands below it.
type model struct {
	d *store.Store
	x *exec.Exec
}

// aim is P23.2 and the first half of P23.3's marks: what is to be there, and how marked; or another answer.
func (m model) aim(text []byte, r api.Request) ([]api.Held, api.Outcome) {
	held := m.x.State().Held
	ps, line, e := index.Parse(text)
	if e != api.OK {
		return nil, api.Outcome{Answer: api.AnswerMalformed, Why: e, Line: line}
	}
	u, e := index.Universe(ps, held)
	if e != api.OK {
		return nil, api.Outcome{Answer: api.AnswerRefused, Why: e}
	}
	set, _, e := resolve.Target(u, held, r)
	if e != api.OK {
		answers := map[api.Errno]int{107: api.AnswerUnsat, 108: api.AnswerBudget}
		if answers[e] == 0 {
			answers[e] = api.AnswerRefused
		}
		return nil, api.Outcome{Answer: answers[e], Why: e}
	}
	var goal []api.Held
	for _, place := range set {
		h := api.Held{Package: u[place], Mark: api.MarkAuto}
		for _, old := range held {
			if old.Name == h.Name {
				h.Mark = old.Mark
			}
		}
		goal = append(goal, h)
	}
	for _, w := range r.Wishes {
		if w.Kind == api.WishInstall {
			goal[firstOf(goal, w.Atom)].Mark = api.MarkManual
		}
	}
	return goal, api.Outcome{}
}

// firstOf tells the place of the first satisfier of an atom: by its name, else by what it provides.
func firstOf(held []api.Held, a api.Atom) int {
	for i, h := range held {
		if h.Name == a.Name && relation.Meets(a, h.Package) {
			return i
		}
	}
	return slices.IndexFunc(held, func(h api.Held) bool { return relation.Meets(a, h.Package) })
}

// works is the rest of P23.3: the batches, and a work each, without contents; or another answer.
func (m model) works(goal []api.Held) ([]api.Batch, []api.Work, api.Outcome) {
	s := m.x.State()
	batches, e := order.Plan(installed.Packages(s.Held), installed.Packages(goal))
	if e == api.ErrOrdCycle {
		return nil, nil, api.Outcome{Answer: api.AnswerCycle}
	}
	if e != api.OK {
		return nil, nil, api.Outcome{Answer: api.AnswerRefused, Why: e}
	}
	var works []api.Work
	var marks []string
	var gone []api.Key
	for _, b := range batches {
		w := api.Work{Group: s.Seq + 1}
		for _, key := range b.Out {
			gone = append(gone, key)
			w.Out = append(w.Out, key.Name)
		}
		for _, key := range b.In {
			w.In = append(w.In, goal[slices.IndexFunc(goal, func(h api.Held) bool { return installed.Key(h) == key })])
		}
		works = append(works, w)
	}
	for _, h := range s.Held {
		for _, g := range goal {
			if installed.Key(g) == installed.Key(h) && g.Mark != h.Mark && !slices.Contains(gone, installed.Key(h)) {
				marks = append(marks, h.Name)
			}
		}
	}
	if len(works) == 0 && len(marks) > 0 {
		works = append(works, api.Work{Group: s.Seq + 1})
	}
	if len(marks) > 0 {
		works[0].Marks = marks
	}
	return batches, works, api.Outcome{}
}

// filled is P23.4: whether the contents of what comes are all to be had, and else whose are not.
func (m model) filled(works []api.Work, archives []api.Blob) (api.Key, bool) {
	for i, w := range works {
		for _, h := range w.In {
			files, is := m.contents(h.Package, archives)
			if !is {
				return installed.Key(h), false
			}
			works[i].Files = append(works[i].Files, files...)
		}
	}
	return api.Key{}, true
}

func (m model) contents(p api.Package, archives []api.Blob) ([]api.Blob, bool) {
	if p.Archive != "" {
		place := slices.IndexFunc(archives, func(a api.Blob) bool { return a.Name == p.Archive })
		if place >= 0 {
			if files, e := archive.Check(p, archives[place].Data); e == api.OK {
				return files, true
			}
		}
	}
	isHeld := slices.ContainsFunc(m.x.State().Held, func(h api.Held) bool { return h.Name == p.Name && h.Version == p.Version })
	if !isHeld {
		return nil, p.Archive == "" && len(p.Files) == 0
	}
	var files []api.Blob
	for _, f := range p.Files {
		data, e := m.d.Read("t/" + f.Path)
		if e != api.OK || len(data) != f.Size || sha256.Sum256(data) != f.Sum {
			return nil, false
		}
		files = append(files, api.Blob{Name: f.Path, Data: data})
	}
	return files, true
}

// reach is what is common to P23.5, P23.7 and P23.8.
func (m model) reach(goal []api.Held, archives []api.Blob) api.Outcome {
	_, works, o := m.works(goal)
	if o.Answer > 0 {
		return o
	}
	if who, is := m.filled(works, archives); !is {
		return api.Outcome{Answer: api.AnswerArchive, Who: who}
	}
	if e := m.x.Check(works); e != api.OK {
		return api.Outcome{Answer: api.AnswerRefused, Why: e}
	}
	o = api.Outcome{Answer: api.AnswerOk, Planned: len(works)}
	if len(works) > 0 && m.x.Frames() > 64 && m.x.Checkpoint() == api.ErrStoDead {
		o.Answer = api.AnswerPower
		return o
	}
	for _, w := range works {
		switch m.x.Run(w) {
		case api.OK:
			o.Done++
			continue
		case api.ErrExeFull:
			o.Answer = api.AnswerFull
		default:
			o.Answer = api.AnswerPower
		}
		break
	}
	return o
}

func (m model) apply(text []byte, r api.Request, archives []api.Blob) api.Outcome {
	if m.x.Dead() {
		return api.Outcome{Answer: api.AnswerPower}
	}
	goal, o := m.aim(text, r)
	if o.Answer > 0 {
		return o
	}
	return m.reach(goal, archives)
}

func (m model) plan(text []byte, r api.Request) ([]api.Batch, api.Outcome) {
	goal, o := m.aim(text, r)
	if o.Answer > 0 {
		return nil, o
	}
	batches, works, o := m.works(goal)
	if o.Answer > 0 {
		return nil, o
	}
	return batches, api.Outcome{Answer: api.AnswerOk, Planned: len(works)}
}

// orphans tells the places of orphans among what is held.
func (m model) orphans(holds []string) []int {
	held := m.x.State().Held
	names := orphans.Roots(held, holds)
	var set, roots []int
	for i, h := range held {
		set = append(set, i)
		if slices.Contains(names, h.Name) {
			roots = append(roots, i)
		}
	}
	return samples.Must(orphans.Orphans(installed.Packages(held), set, roots))
}

func (m model) sweep(holds []string) api.Outcome {
	if m.x.Dead() {
		return api.Outcome{Answer: api.AnswerPower}
	}
	gone := m.orphans(holds)
	var goal []api.Held
	for i, h := range m.x.State().Held {
		if !slices.Contains(gone, i) {
			goal = append(goal, h)
		}
	}
	return m.reach(goal, nil)
}

func (m model) undo(archives []api.Blob) api.Outcome {
	if m.x.Dead() {
		return api.Outcome{Answer: api.AnswerPower}
	}
	_, goal, e := history.Undo(m.x.State())
	if e != api.OK {
		return api.Outcome{Answer: api.AnswerRefused, Why: e}
	}
	return m.reach(goal, archives)
}

func (m model) mark(name string, mark int) api.Errno {
	if m.x.Dead() {
		return api.ErrStoDead
	}
	s := m.x.State()
	for _, h := range s.Held {
		if h.Name != name {
			continue
		}
		if mark < 0 || mark > 1 {
			return api.ErrArg
		}
		if mark == h.Mark {
			return api.OK
		}
		return m.x.Run(api.Work{Marks: []string{name}, Group: s.Group})
	}
	return api.ErrFrontName
}

func (m model) repair(archives []api.Blob) ([]api.Wrong, api.Errno) {
	if m.x.Dead() {
		return nil, api.ErrStoDead
	}
	s := m.x.State()
	wrong := samples.Must(audit.Check(m.d, s.Held))
	w, left, e := audit.Plan(s.Held, wrong, archives)
	samples.Must(0, e)
	if len(w.Mend) == 0 {
		return left, api.OK
	}
	w.Group = s.Group
	if e := m.x.Run(w); e != api.OK {
		return nil, e
	}
	return left, api.OK
}

// pair is an installer and its model, over stores that are the same.
type pair struct {
	f *front.Front
	d *store.Store
	m model
}

// opened tells the pair over two stores that are the same, or the error.
func opened(t *testing.T, what string, d, twin *store.Store) (pair, api.Errno) {
	t.Helper()
	f, e := front.Open(d)
	x, g := exec.Open(twin)
	if e != g || (f == nil) != (x == nil) {
		t.Fatalf("P23.1: %s: Open = %v, %d, want %d", what, f != nil, e, g)
	}
	p := pair{f, d, model{twin, x}}
	if samples.Told(d) != samples.Told(twin) {
		t.Fatalf("P23.1: %s: Open leaves %q, want %q", what, samples.Told(d), samples.Told(twin))
	}
	if e == api.OK {
		p.hold(t, what)
	}
	return p, e
}

// pairOf opens a pair over an image.
func pairOf(t *testing.T, image []api.Blob, capacity int) pair {
	t.Helper()
	p, e := opened(t, "an image", samples.Must(store.Load(image, capacity)), samples.Must(store.Load(image, capacity)))
	if e != api.OK {
		t.Fatalf("P23.1: Open = %d", e)
	}
	return p
}

// newPair opens a pair over a new store.
func newPair(t *testing.T) pair {
	t.Helper()
	return pairOf(t, nil, room)
}

// hold holds what an installer tells of its state, and its store, against the model.
func (p pair) hold(t *testing.T, what string) {
	t.Helper()
	if got, want := samples.Told(p.d), samples.Told(p.m.d); got != want {
		t.Fatalf("%s: the store is %q, want %q", what, got, want)
	}
	s := p.m.x.State()
	if got, want := told(p.f.Query(), p.f.Seq(), p.f.History()), told(s.Held, s.Seq, s.Past); got != want {
		t.Fatalf("P23.11: %s: the state is %s, want %s", what, got, want)
	}
}

// same holds an answer of the installer against the model's, and then all that can be seen.
func (p pair) same(t *testing.T, what string, got, want any) {
	t.Helper()
	if told(got) != told(want) {
		t.Fatalf("%s = %s, want %s", what, told(got), told(want))
	}
	p.hold(t, what)
}

func (p pair) apply(t *testing.T, text []byte, r api.Request, archives []api.Blob) api.Outcome {
	t.Helper()
	ahead := samples.Told(p.d)
	got := p.f.Apply(text, r, archives)
	p.same(t, "P23.5: Apply", got, p.m.apply(text, r, archives))
	p.holdAnswer(t, got, ahead)
	return got
}

func (p pair) plan(t *testing.T, text []byte, r api.Request) ([]api.Batch, api.Outcome) {
	t.Helper()
	ahead := samples.Told(p.d)
	batches, got := p.f.Plan(text, r)
	wanted, want := p.m.plan(text, r)
	p.same(t, "P23.6: Plan", []any{batches, got}, []any{wanted, want})
	if samples.Told(p.d) != ahead {
		t.Fatal("P23.6: Plan changes the store")
	}
	return batches, got
}

func (p pair) sweep(t *testing.T, holds ...string) api.Outcome {
	t.Helper()
	ahead := samples.Told(p.d)
	got := p.f.Sweep(holds)
	p.same(t, "P23.7: Sweep", got, p.m.sweep(holds))
	p.holdAnswer(t, got, ahead)
	return got
}

func (p pair) undo(t *testing.T, archives []api.Blob) api.Outcome {
	t.Helper()
	ahead := samples.Told(p.d)
	got := p.f.Undo(archives)
	p.same(t, "P23.8: Undo", got, p.m.undo(archives))
	p.holdAnswer(t, got, ahead)
	return got
}

func (p pair) mark(t *testing.T, name string, mark int) api.Errno {
	t.Helper()
	got := p.f.Mark(name, mark)
	p.same(t, "P23.9: Mark", got, p.m.mark(name, mark))
	return got
}

func (p pair) repair(t *testing.T, archives []api.Blob) ([]api.Wrong, api.Errno) {
	t.Helper()
	left, got := p.f.Repair(archives)
	wanted, want := p.m.repair(archives)
	p.same(t, "P23.10: Repair", []any{left, got}, []any{wanted, want})
	return left, got
}

// holdAnswer holds what all outcomes have in common, of an installer whose store had power, or had not.
func (p pair) holdAnswer(t *testing.T, o api.Outcome, ahead string) {
	t.Helper()
	same := samples.Told(p.d) == ahead
	fits := false
	switch o.Answer {
	case api.AnswerOk:
		fits = o == api.Outcome{Answer: o.Answer, Done: o.Planned, Planned: o.Planned} && same == (o.Planned == 0)
	case api.AnswerMalformed:
		fits = o == api.Outcome{Answer: o.Answer, Why: o.Why, Line: o.Line} && o.Why != api.OK && same
	case api.AnswerRefused, api.AnswerUnsat, api.AnswerBudget:
		fits = o == api.Outcome{Answer: o.Answer, Why: o.Why} && o.Why != api.OK && same
	case api.AnswerCycle:
		fits = o == api.Outcome{Answer: o.Answer} && same
	case api.AnswerArchive:
		fits = o == api.Outcome{Answer: o.Answer, Who: o.Who} && o.Who.Name != "" && same
	case api.AnswerFull:
		fits = o == api.Outcome{Answer: o.Answer, Done: o.Done, Planned: o.Planned} && o.Done < o.Planned
	case api.AnswerPower:
		fits = o == api.Outcome{Answer: o.Answer, Done: o.Done, Planned: o.Planned} && (o.Done < o.Planned || o.Planned == 0 && same)
	}
	if !fits {
		t.Fatalf("P0.1, P0.4: %+v; the store is the same: %v", o, same)
	}
}

// whole holds P0.2 and P23.12: a state in which nothing is broken, just its files in the tree, nothing staged.
func (p pair) whole(t *testing.T, what string) {
	t.Helper()
	held := p.f.Query()
	if faults := valid.Faults(installed.Packages(held)); len(faults) > 0 {
		t.Fatalf("P0.2: %s: %v is broken: %v", what, states(held), faults)
	}
	files := map[string]api.File{}
	for _, h := range held {
		for _, f := range h.Files {
			files["t/"+f.Path] = f
		}
	}
	for name, data := range samples.Seen(p.d) {
		f, is := files[name]
		if is && len(data) == f.Size && sha256.Sum256([]byte(data)) == f.Sum {
			delete(files, name)
		} else if name != "d/status" && name != "d/journal" {
			t.Fatalf("P0.2: %s: %q is on the store, with %q", what, name, data)
		}
	}
	if len(files) > 0 {
		t.Fatalf("P0.2: %s: %v are not in the tree", what, files)
	}
}

// states tells what is held as `aa=1/0 bb=2/1`: names, versions, marks.
func states(held []api.Held) string {
	var words []string
	for _, h := range held {
		words = append(words, fmt.Sprintf("%s=%s/%d", h.Name, h.Version, h.Mark))
	}
	return strings.Join(words, " ")
}

// asked holds what the calls that ask answer against the model, of some names, paths and holds.
func (p pair) asked(t *testing.T, what string, names, paths, holds []string) {
	t.Helper()
	ahead := samples.Told(p.d)
	s := p.m.x.State()
	var keys []api.Key
	for _, place := range p.m.orphans(holds) {
		keys = append(keys, installed.Key(s.Held[place]))
	}
	p.same(t, what+": P23.11: Orphans", p.f.Orphans(holds), keys)
	wrong, e := p.f.Audit()
	wanted, g := audit.Check(p.m.d, s.Held)
	p.same(t, what+": P23.11: Audit", []any{wrong, e}, []any{wanted, g})
	for _, name := range names {
		chain, e := p.f.Chain(name)
		wanted, g := why.Chain(s.Held, name)
		p.same(t, what+": P23.11: Chain", []any{chain, e}, []any{wanted, g})
	}
	var inTree []string
	for name := range p.m.d.Names("t/") {
		if isPath(name[2:]) {
			inTree = append(inTree, name[2:])
		}
	}
	p.same(t, what+": P23.11: Paths", p.f.Paths(), inTree)
	for _, path := range paths {
		key, is := p.f.Owner(path)
		wantedKey, wantedIs := audit.Owner(s.Held, path)
		p.same(t, what+": P23.11: Owner", []any{key, is}, []any{wantedKey, wantedIs})
		data, e := p.f.Read(path)
		wanted, g := p.m.d.Read("t/" + path)
		if p.m.d.Dead() {
			wanted, g = nil, api.ErrStoDead
		} else if !isPath(path) || g != api.OK {
			wanted, g = nil, api.ErrFrontPath
		}
		p.same(t, what+": P23.11: Read", []any{data, e}, []any{wanted, g})
	}
	if samples.Told(p.d) != ahead {
		t.Fatalf("P23.11: %s: asking changes the store", what)
	}
}

// isPath tells whether a text is a path.
func isPath(path string) bool {
	for _, segment := range strings.Split(path, "/") {
		if segment == "" || segment == "." || segment == ".." || strings.ContainsFunc(segment, func(r rune) bool { return r < 0x21 || r > 0x7E }) {
			return false
		}
	}
	return len(path) <= 256
}

// blamed holds what Blame answers against the model.
func (p pair) blamed(t *testing.T, text []byte, r api.Request) ([]api.Rule, int, api.Errno) {
	t.Helper()
	ahead := samples.Told(p.d)
	held := p.m.x.State().Held
	var wanted []api.Rule
	verdict := 0
	ps, _, g := index.Parse(text)
	if g == api.OK {
		ps, g = index.Universe(ps, held)
	}
	if g == api.OK {
		wanted, verdict, g = why.Blame(ps, held, r)
	}
	rules, found, e := p.f.Blame(text, r)
	p.same(t, "P23.11: Blame", []any{rules, found, e}, []any{wanted, verdict, g})
	if samples.Told(p.d) != ahead {
		t.Fatal("P23.11: Blame changes the store")
	}
	return rules, found, e
}

// both does something with both stores.
func (p pair) both(do func(d *store.Store)) {
	do(p.d)
	do(p.m.d)
}
