package front

import (
	"larder/api"
	"larder/archive"
	"larder/installed"
	"larder/order"
	"larder/store"
	"larder/tree"
)

// mostFrames is how many frames a journal may have ahead of a change; above that it is let go.
const mostFrames = 64

// reach carries out what leads from a state to a goal.
func (f *Front) reach(state api.State, goal []api.Held, archives []api.Blob) api.Outcome {
	_, works := planned(state, goal)
	s := f.supplyOf(state.Held, archives)
	for i, w := range works {
		for _, h := range w.In {
			works[i].Files = append(works[i].Files, s.contents(h.Package)...)
		}
	}
	e := f.exec.Check(works)
	must(e, errRefused, api.Outcome{Why: e})
	f.run(works)
	return api.Outcome{Answer: api.AnswerOk, Done: len(works), Planned: len(works)}
}

// run carries works out.
func (f *Front) run(works []api.Work) {
	o := api.Outcome{Planned: len(works)}
	if len(works) > 0 && f.exec.Frames() > mostFrames {
		must(f.exec.Checkpoint(), errPower, o)
	}
	for _, w := range works {
		e := f.exec.Run(w)
		must(e, whyNotRun(e), o)
		o.Done++
	}
}

// whyNotRun tells what an error of exec means, of a work that may be.
func whyNotRun(e api.Errno) error {
	if e == api.ErrExeFull {
		return errFull
	}
	return errPower
}

// planned tells the batches that lead from a state to a goal, and their works, as yet without the contents of what comes. All of them are one change.
func planned(state api.State, goal []api.Held) ([]api.Batch, []api.Work) {
	batches, e := order.Plan(installed.Packages(state.Held), installed.Packages(goal))
	if e == api.ErrOrdCycle {
		panic(stop{reason: errCycle})
	}
	must(e, errRefused, api.Outcome{Why: e})
	var works []api.Work
	coming := byKeys(goal)
	for _, b := range batches {
		w := api.Work{Group: state.Seq + 1}
		for _, key := range b.Out {
			w.Out = append(w.Out, key.Name)
		}
		for _, key := range b.In {
			w.In = append(w.In, coming[key])
		}
		works = append(works, w)
	}
	if marks := turned(state.Held, coming, batches); len(marks) > 0 {
		if len(works) == 0 {
			works = []api.Work{{Group: state.Seq + 1}}
		}
		works[0].Marks = marks
	}
	return batches, works
}

func byKeys(held []api.Held) map[api.Key]api.Held {
	all := make(map[api.Key]api.Held, len(held))
	for _, h := range held {
		all[installed.Key(h)] = h
	}
	return all
}

// turned tells the names of what is held, stays all the while, and is to have another mark. (What goes and comes again comes with its mark.)
func turned(held []api.Held, goal map[api.Key]api.Held, batches []api.Batch) []string {
	goes := map[api.Key]struct{}{}
	for _, b := range batches {
		for _, key := range b.Out {
			goes[key] = struct{}{}
		}
	}
	var names []string
	for _, h := range held {
		_, gone := goes[installed.Key(h)]
		if wanted, stays := goal[installed.Key(h)]; stays && !gone && wanted.Mark != h.Mark {
			names = append(names, h.Name)
		}
	}
	return names
}

// supply is where the contents of what comes are from.
type supply struct {
	archives map[string][]byte // of several with one name the first
	held     map[api.Key]api.Held
	store    *store.Store
}

func (f *Front) supplyOf(held []api.Held, archives []api.Blob) supply {
	s := supply{archives: map[string][]byte{}, held: byKeys(held), store: f.store}
	for _, a := range archives {
		if _, known := s.archives[a.Name]; !known {
			s.archives[a.Name] = a.Data
		}
	}
	return s
}

// contents tells the files of a package that comes: those of its archive; or, if it is to come again, those that lie in the tree.
func (s supply) contents(p api.Package) []api.Blob {
	if p.Archive == "" && len(p.Files) == 0 {
		return nil
	}
	if data, has := s.archives[p.Archive]; has && p.Archive != "" {
		if files, e := archive.Check(p, data); e == api.OK {
			return files
		}
	}
	files, all := s.lying(p)
	if !all {
		panic(stop{errArchive, api.Outcome{Who: keyOf(p)}})
	}
	return files
}

// lying tells the files of a package that is installed, if all of them are in the tree as they should be.
func (s supply) lying(p api.Package) ([]api.Blob, bool) {
	if _, is := s.held[keyOf(p)]; !is {
		return nil, false
	}
	var files []api.Blob
	for _, file := range p.Files {
		data, is, _ := tree.Read(s.store, file)
		if !is {
			return nil, false
		}
		files = append(files, api.Blob{Name: file.Path, Data: data})
	}
	return files, true
}

func keyOf(p api.Package) api.Key { return api.Key{Name: p.Name, Version: p.Version} }
