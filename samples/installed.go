package samples

import "larder/api"

// odd tells a package that nobody may look at: it stands beyond the end of a list, or where one was written over.
func odd(name string) api.Package { return api.Package{Name: name, Version: "1"} }

// RoomyPackages tells a copy of some packages whose lists, and the list itself, have room beyond their ends.
func RoomyPackages(ps []api.Package) []api.Package {
	list := make([]api.Package, len(ps))
	for i, p := range ps {
		list[i] = RoomyPackage(p)
	}
	return Roomy(list, odd("beyond"))
}

// ExtentOfPackages tells a copy of all that packages have room for.
func ExtentOfPackages(ps []api.Package) []api.Package {
	list := Room(ps)
	for i, p := range list {
		list[i] = Extent(p)
	}
	return list
}

// SpoilPackages writes over all that packages have room for.
func SpoilPackages(ps []api.Package) {
	for _, p := range ps[:cap(ps)] {
		Spoil(p)
	}
	Fill(ps, odd("spoiled"))
}

// RoomyHeld does what RoomyPackages does, with installed ones.
func RoomyHeld(held []api.Held) []api.Held {
	list := make([]api.Held, len(held))
	for i, h := range held {
		list[i] = api.Held{Package: RoomyPackage(h.Package), Mark: h.Mark}
	}
	return Roomy(list, api.Held{Package: odd("beyond"), Mark: 7})
}

// ExtentOfHeld does what ExtentOfPackages does, with installed ones.
func ExtentOfHeld(held []api.Held) []api.Held {
	list := Room(held)
	for i, h := range list {
		list[i].Package = Extent(h.Package)
	}
	return list
}

// SpoilHeld does what SpoilPackages does, with installed ones.
func SpoilHeld(held []api.Held) {
	for _, h := range held[:cap(held)] {
		Spoil(h.Package)
	}
	Fill(held, api.Held{Package: odd("spoiled"), Mark: 7})
}
