package samples

import "larder/api"

// odd tells a package that nobody may look at: it stands beyond the end of a list, or where one was written over.
func odd(name string) api.Package { return api.Package{Name: name, Version: "1"} }

// RoomyPackages tells a copy of some packages whose lists, and the list itself, have room beyond their ends.
func RoomyPackages(ps []api.Package) []api.Package {
	list := make([]api.Package, len(ps))
	for i, p := range ps {
		list[i] = RoomyPackage(p)
	}
	return Roomy(list, odd("beyond"))
}

// ExtentOfPackages tells a copy of all that packages have room for.
func ExtentOfPackages(ps []api.Package) []api.Package {
	list := Room(ps)
	for i, p := range list {
		list[i] = Extent(p)
	}
	return list
}

// SpoilPackages writes over all that packages have room for.
func SpoilPackages(ps []api.Package) {
	for _, p := range ps[:cap(ps)] {
		Spoil(p)
	}
	Fill(ps, odd("spoiled"))
}

// RoomyHeld does what RoomyPackages does, with installed ones.
func RoomyHeld(held []api.Held) []api.Held {
	list := make([]api.Held, len(held))
	for i, h := range held {
		list[i] = api.Held{Package: RoomyPackage(h.Package), Mark: h.Mark}
	}
	return Roomy(list, api.Held{Package: odd("beyond"), Mark: 7})
}

// ExtentOfHeld does what ExtentOfPackages does, with installed ones.
func ExtentOfHeld(held []api.Held) []api.Held {
	list := Room(held)
	for i, h := range list {
		list[i].Package = Extent(h.Package)
	}
	return list
}

// SpoilHeld does what SpoilPackages does, with installed ones.
func SpoilHeld(held []api.Held) {
	for _, h := range held[:cap(held)] {
		Spoil(h.Package)
	}
	Fill(held, api.Held{Package: odd("spoiled"), Mark: 7})
}

// RoomyState tells a copy of a state whose lists have room beyond their ends.
func RoomyState(s api.State) api.State {
	s.Held, s.Before = RoomyHeld(s.Held), RoomyHeld(s.Before)
	s.Past = Roomy(s.Past, api.Entry{Seq: 7, Group: 7})
	beyond := api.Key{Name: "beyond", Version: "1"}
	for i, entry := range s.Past {
		s.Past[i].Out, s.Past[i].In = Roomy(entry.Out, beyond), Roomy(entry.In, beyond)
	}
	return s
}

// ExtentOfState tells a copy of all that a state has room for.
func ExtentOfState(s api.State) api.State {
	s.Held, s.Before = ExtentOfHeld(s.Held), ExtentOfHeld(s.Before)
	s.Past = Room(s.Past)
	for i, entry := range s.Past {
		s.Past[i].Out, s.Past[i].In = Room(entry.Out), Room(entry.In)
	}
	return s
}

// SpoilState writes over all that a state has room for.
func SpoilState(s api.State) {
	SpoilHeld(s.Held)
	SpoilHeld(s.Before)
	for _, entry := range s.Past[:cap(s.Past)] {
		Fill(entry.Out, api.Key{Name: "spoiled"})
		Fill(entry.In, api.Key{Name: "spoiled"})
	}
	Fill(s.Past, api.Entry{Seq: 9, Group: 9})
}
