package pack

import (
	"cmp"
	"iter"
	"slices"
	"strings"

	"outfitter/api"
)

// place is where an item is: what kind of thing it is (as clashes tell it), and its path, key or name.
type place struct {
	kind int
	name string
}

// Items returns the items of chosen components: files, then settings, then services, in order.
func Items(p api.Package, chosen []string) ([]api.Item, api.Errno) {
	in, e := closedOf(p, chosen)
	if e != api.OK {
		return nil, e
	}
	return itemsOf(p, in), api.OK
}

// Steps returns the steps of chosen components, those of a component behind those of all that it needs.
func Steps(p api.Package, chosen []string) ([]api.Step, api.Errno) {
	in, e := closedOf(p, chosen)
	if e != api.OK {
		return nil, e
	}
	var steps []api.Step
	l := linksOf(p)
	twice := again[int]()
	var visit func(i int)
	visit = func(i int) {
		if twice(i) {
			return
		}
		for _, j := range l[i] {
			visit(j)
		}
		steps = append(steps, p.Components[i].Steps...)
	}
	for i := range p.Components {
		if in[i] {
			visit(i)
		}
	}
	return steps, api.OK
}

// Clashes tells where packages with chosen components are in each other's way.
func Clashes(l []api.Package, chosen [][]string) ([]api.Clash, api.Errno) {
	switch {
	case len(l) != len(chosen):
		return nil, api.ErrForm
	case len(l) > api.MaxPackages:
		return nil, api.ErrLarge
	}
	twice := again[string]()
	var brought [][]api.Item
	for i, p := range l {
		in, e := closedOf(p, chosen[i])
		if e != api.OK {
			return nil, e
		}
		if twice(p.Name) {
			return nil, api.ErrTwice
		}
		brought = append(brought, itemsOf(p, in))
	}
	return clashesOf(brought), api.OK
}

// bringer is a package, by its number, and the item that it has for a place.
type bringer struct {
	number int
	item   api.Item
}

// clashesOf looks at the items of each package.
func clashesOf(brought [][]api.Item) []api.Clash {
	bringers := map[place][]bringer{}
	for i, items := range brought {
		for _, x := range items {
			at := placeOf(x)
			bringers[at] = append(bringers[at], bringer{i, x})
		}
	}
	var clashes []api.Clash
	for i, items := range brought {
		with := make([][]api.Clash, len(brought))
		for _, x := range items {
			at := placeOf(x)
			for _, other := range bringers[at] {
				if j := other.number; j > i && !areShared(x, other.item) {
					with[j] = append(with[j], api.Clash{First: i, Second: j, Kind: at.kind, Name: at.name})
				}
			}
		}
		clashes = append(clashes, slices.Concat(with...)...)
	}
	return clashes
}

// areShared reports whether two items of one place can both be there.
func areShared(a, b api.Item) bool {
	return a.Kind == api.ItemShared && b.Kind == api.ItemShared && a.File == b.File
}

// itemsOf is Items for the components at some places.
func itemsOf(p api.Package, in []bool) []api.Item {
	var items []api.Item
	for i, c := range p.Components {
		if in[i] {
			items = append(items, c.Items...)
		}
	}
	slices.SortFunc(items, func(x, y api.Item) int {
		a, b := placeOf(x), placeOf(y)
		return cmp.Or(cmp.Compare(a.kind, b.kind), strings.Compare(a.name, b.name))
	})
	return items
}

func placeOf(x api.Item) place {
	switch x.Kind {
	case api.ItemSetting:
		return place{api.ClashSetting, x.Setting.Key}
	case api.ItemService:
		return place{api.ClashService, x.Service.Name}
	}
	return place{api.ClashFile, x.File.Path}
}

func isFile(x api.Item) bool { return x.Kind >= api.ItemProgram && x.Kind <= api.ItemData }

// allItems goes through the items of all components.
func allItems(p api.Package) iter.Seq[api.Item] {
	return func(yield func(api.Item) bool) {
		for _, c := range p.Components {
			for _, x := range c.Items {
				if !yield(x) {
					return
				}
			}
		}
	}
}

// allFiles goes through the files of all components.
func allFiles(p api.Package) iter.Seq[api.File] {
	return func(yield func(api.File) bool) {
		for x := range allItems(p) {
			if isFile(x) && !yield(x.File) {
				return
			}
		}
	}
}

// above goes through the directories that a path lies below.
func above(path string) iter.Seq[string] {
	return func(yield func(string) bool) {
		for i := range len(path) {
			if path[i] == '/' && !yield(path[:i]) {
				return
			}
		}
	}
}
