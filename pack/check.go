// Package pack has packages, their components and items, their texts, and bundles (doc/03-pack.md).
package pack

import (
	"cmp"
	"slices"
	"strings"

	"outfitter/api"
	"outfitter/disk"
	"outfitter/ver"
)

// Check validates a package.
func Check(p api.Package) api.Errno {
	// Each one relies on what those ahead of it have found right.
	for _, check := range []func(api.Package) api.Errno{
		checkHead, checkOthers, checkComponents, checkLinks, checkPlaces, checkPaths, checkServices, checkMoves, checkSize,
	} {
		if e := check(p); e != api.OK {
			return e
		}
	}
	return api.OK
}

// when returns an error, if something is bad.
func when(bad bool, e api.Errno) api.Errno {
	if bad {
		return e
	}
	return api.OK
}

// each returns the error of the first bad thing of a list.
func each[T any](l []T, check func(T) api.Errno) api.Errno {
	for _, thing := range l {
		if e := check(thing); e != api.OK {
			return e
		}
	}
	return api.OK
}

// again returns a function that reports whether it has been asked for a thing before.
func again[T comparable]() func(T) bool {
	asked := map[T]bool{}
	return func(thing T) bool {
		before := asked[thing]
		asked[thing] = true
		return before
	}
}

func checkHead(p api.Package) api.Errno {
	return cmp.Or(
		when(!ver.IsName(p.Name), api.ErrName),
		ver.Check(p.Version),
		when(!ver.IsValue(p.Title), api.ErrForm),
	)
}

func checkOthers(p api.Package) api.Errno {
	if len(p.Needs) > api.MaxNeeds || len(p.Bars) > api.MaxNeeds {
		return api.ErrLarge
	}
	return cmp.Or(each(p.Needs, checkOther(p.Name)), each(p.Bars, checkOther(p.Name)))
}

// checkOther looks at the needs, or at the bars, of a package with this name, one after the other.
func checkOther(own string) func(api.Need) api.Errno {
	twice := again[string]()
	return func(n api.Need) api.Errno {
		return cmp.Or(
			when(!ver.IsName(n.Name), api.ErrName),
			when(n.Name == own, api.ErrLoop),
			when(twice(n.Name), api.ErrTwice),
			ver.CheckRange(n.Range),
		)
	}
}

func checkComponents(p api.Package) api.Errno {
	switch {
	case len(p.Components) == 0:
		return api.ErrEmpty
	case len(p.Components) > api.MaxComponents:
		return api.ErrLarge
	}
	twice := again[string]()
	return each(p.Components, func(c api.Component) api.Errno {
		return cmp.Or(
			when(!ver.IsName(c.Name), api.ErrName),
			when(twice(c.Name), api.ErrTwice),
			when(!ver.IsValue(c.Title), api.ErrForm),
			ver.CheckCond(c.When),
			each(c.Needs, checkNeed(c.Name)),
			each(c.Items, checkItem),
			each(c.Steps, checkStep),
		)
	})
}

// checkNeed looks at the needs of a component with this name, one after the other.
func checkNeed(own string) func(string) api.Errno {
	twice := again[string]()
	return func(name string) api.Errno {
		return cmp.Or(when(name == own, api.ErrLoop), when(twice(name), api.ErrTwice))
	}
}

func checkItem(x api.Item) api.Errno {
	if x.Kind < api.ItemProgram || x.Kind > api.ItemService {
		return api.ErrKind
	}
	n := needed(x)
	return cmp.Or(disk.CheckChange(bringing(n)), when(x != n, api.ErrForm))
}

// needed returns an item with nothing but what its kind needs: a service comes without being on.
func needed(x api.Item) api.Item {
	n := api.Item{Kind: x.Kind}
	switch x.Kind {
	case api.ItemSetting:
		n.Setting = x.Setting
	case api.ItemService:
		n.Service = x.Service
		n.Service.On = false
	default:
		n.File = x.File
	}
	return n
}

// bringing returns the change that puts, sets or begins an item.
func bringing(x api.Item) api.Change {
	c := api.Change{Kind: api.ChangePut, File: x.File, Setting: x.Setting, Service: x.Service}
	switch x.Kind {
	case api.ItemSetting:
		c.Kind = api.ChangeSet
	case api.ItemService:
		c.Kind = api.ChangeService
	}
	return c
}

func checkStep(s api.Step) api.Errno {
	isName := ver.IsPath
	if s.Kind == api.StepStart || s.Kind == api.StepStop {
		isName = ver.IsName
	}
	ofFile := s.Kind == api.StepWrite || s.Kind == api.StepErase
	valued := s.Kind == api.StepSet || s.Kind == api.StepWrite
	return cmp.Or(
		when(s.Kind < api.StepSet || s.Kind > api.StepStop, api.ErrKind),
		when(!isName(s.Name), api.ErrName),
		when(ofFile && isReserved(s.Name), api.ErrDenied),
		when(!ver.IsValue(s.Value) || s.Value != "" && !valued, api.ErrForm),
	)
}

// isReserved reports whether a path is one of outfitter's own.
func isReserved(path string) bool {
	top, _, _ := strings.Cut(path, "/")
	return top == "stage" || top == "outfit"
}

func checkLinks(p api.Package) api.Errno {
	places := placesOf(p)
	l := linksOf(p)
	for i, c := range p.Components {
		isMissing := func(name string) bool {
			_, there := places[name]
			return !there
		}
		if slices.ContainsFunc(c.Needs, isMissing) {
			return api.ErrNone
		}
		if l.closed(l[i])[i] {
			return api.ErrLoop
		}
	}
	return api.OK
}

func checkPlaces(p api.Package) api.Errno {
	twice := again[place]()
	for x := range allItems(p) {
		if twice(placeOf(x)) {
			return api.ErrTwice
		}
	}
	return api.OK
}

func checkPaths(p api.Package) api.Errno {
	files, dirs := map[string]bool{}, map[string]bool{}
	for f := range allFiles(p) {
		files[f.Path] = true
		for dir := range above(f.Path) {
			dirs[dir] = true
		}
	}
	for f := range allFiles(p) {
		if dirs[f.Path] {
			return api.ErrConflict
		}
		for dir := range above(f.Path) {
			if files[dir] {
				return api.ErrConflict
			}
		}
		if isReserved(f.Path) {
			return api.ErrDenied
		}
	}
	return api.OK
}

func checkServices(p api.Package) api.Errno {
	owners := map[string]int{} // of files: the places of their components
	for i, c := range p.Components {
		for _, x := range c.Items {
			if isFile(x) {
				owners[x.File.Path] = i
			}
		}
	}
	l := linksOf(p)
	for i, c := range p.Components {
		near := l.closed([]int{i})
		for _, x := range c.Items {
			if x.Kind != api.ItemService {
				continue
			}
			if owner, there := owners[x.Service.Path]; !there || !near[owner] {
				return api.ErrNone
			}
		}
	}
	return api.OK
}

func checkMoves(p api.Package) api.Errno {
	if len(p.Moves) > api.MaxMoves {
		return api.ErrLarge
	}
	return each(p.Moves, func(m api.Move) api.Errno {
		return cmp.Or(
			ver.CheckRange(m.From),
			ver.Check(m.To),
			when(len(m.Rules) > api.MaxRules, api.ErrLarge),
			each(m.Rules, func(rule string) api.Errno {
				return when(rule == "" || !ver.IsValue(rule), api.ErrForm)
			}),
		)
	})
}

func checkSize(p api.Package) api.Errno {
	size := 0
	for f := range allFiles(p) {
		size += len(f.Data)
	}
	return when(size > api.MaxBundle, api.ErrLarge)
}
