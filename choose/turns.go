package choose

import (
	"maps"
	"slices"

	"outfitter/api"
	"outfitter/ver"
)

// shelf has packages by their names.
type shelf map[string]api.Package

// Order returns the names of picks in the order in which they are installed.
func Order(w api.World, l []api.Pick) ([]string, api.Errno) {
	if e := Check(w); e != api.OK {
		return nil, e
	}
	packages, e := shelfOf(w, l)
	if e != api.OK {
		return nil, e
	}
	return packages.order(), api.OK
}

// Changes tells how what is installed becomes picks.
func Changes(w api.World, l []api.Pick) ([]api.Turn, api.Errno) {
	if e := Check(w); e != api.OK {
		return nil, e
	}
	packages, e := shelfOf(w, l)
	if e != api.OK {
		return nil, e
	}
	now := map[string]api.Pick{}
	for _, p := range l {
		if e := checkParts(packages[p.Name], p.Components); e != api.OK {
			return nil, e
		}
		now[p.Name] = p
	}
	was := map[string]api.Pick{}
	for _, p := range installedPicks(w) {
		was[p.Name] = p
	}
	var turns []api.Turn
	for _, name := range slices.Backward(shelfOfInstalled(w).order()) {
		if _, stays := now[name]; !stays {
			turns = append(turns, api.Turn{Kind: api.TurnRemove, Name: name, From: was[name].Version, Dropped: minus(was[name], api.Pick{})})
		}
	}
	for _, name := range packages.order() {
		before, isThere := was[name]
		if t := turnTo(now[name], before, isThere); t.Kind != 0 {
			turns = append(turns, t)
		}
	}
	return turns, api.OK
}

// turnTo has no Kind if nothing happens.
func turnTo(now, was api.Pick, isThere bool) api.Turn {
	t := api.Turn{Name: now.Name, Added: minus(now, was), Dropped: minus(was, now)}
	order, _ := ver.Compare(now.Version, was.Version)
	switch {
	case !isThere:
		t.Kind, t.To = api.TurnInstall, now.Version
	case order > 0:
		t.Kind, t.From, t.To = api.TurnUpdate, was.Version, now.Version
	case order < 0:
		t.Kind, t.From, t.To = api.TurnDowngrade, was.Version, now.Version
	case len(t.Added)+len(t.Dropped) > 0:
		t.Kind = api.TurnParts
	}
	return t
}

// minus returns the components of a pick that another one has not.
func minus(p, other api.Pick) []string {
	var names []string
	for _, name := range p.Components {
		if !slices.Contains(other.Components, name) {
			names = append(names, name)
		}
	}
	return names
}

// Needed returns the installed packages that need an installed one.
func Needed(w api.World, name string) ([]string, api.Errno) {
	if e := Check(w); e != api.OK {
		return nil, e
	}
	packages := shelfOfInstalled(w)
	if _, there := packages[name]; !there {
		return nil, api.ErrNone
	}
	var names []string
	for _, in := range w.Installed {
		if in.Name != name && packages.reach(in.Name)[name] {
			names = append(names, in.Name)
		}
	}
	return names, api.OK
}

// Orphans returns the installed packages that are there for nothing any more.
func Orphans(w api.World) ([]string, api.Errno) {
	if e := Check(w); e != api.OK {
		return nil, e
	}
	var wanted, names []string
	for _, in := range w.Installed {
		if in.Wanted {
			wanted = append(wanted, in.Name)
		}
	}
	reached := shelfOfInstalled(w).reach(wanted...)
	for _, in := range w.Installed {
		if !reached[in.Name] {
			names = append(names, in.Name)
		}
	}
	return names, api.OK
}

// Wants returns wants for what is installed because the user has asked for it.
func Wants(w api.World) ([]api.Want, api.Errno) {
	if e := Check(w); e != api.OK {
		return nil, e
	}
	var wants []api.Want
	for _, in := range w.Installed {
		if in.Wanted {
			on := api.Span{HasFrom: true, From: in.Version}
			wants = append(wants, api.Want{Name: in.Name, Range: api.Range{Spans: []api.Span{on}}})
		}
	}
	return wants, api.OK
}

// installedPicks returns what is installed as picks.
func installedPicks(w api.World) []api.Pick {
	var l []api.Pick
	for _, in := range w.Installed {
		l = append(l, api.Pick{Name: in.Name, Version: in.Version, Components: in.Components})
	}
	return l
}

// shelfOf has the packages of picks.
func shelfOf(w api.World, l []api.Pick) (shelf, api.Errno) {
	packages := shelf{}
	for _, p := range l {
		i := find(w, p.Name, p.Version)
		if i < 0 {
			return nil, api.ErrNone
		}
		if _, there := packages[p.Name]; there {
			return nil, api.ErrTwice
		}
		packages[p.Name] = w.Packages[i]
	}
	return packages, api.OK
}

// shelfOfInstalled has what is installed in a world that is right.
func shelfOfInstalled(w api.World) shelf {
	packages, _ := shelfOf(w, installedPicks(w))
	return packages
}

// order goes through packages by name, each one behind what it needs.
func (s shelf) order() []string {
	var order []string
	begun := map[string]bool{}
	var visit func(name string)
	visit = func(name string) {
		p, there := s[name]
		if !there || begun[name] {
			return
		}
		begun[name] = true
		for _, need := range p.Needs {
			visit(need.Name)
		}
		order = append(order, name)
	}
	for _, name := range slices.Sorted(maps.Keys(s)) {
		visit(name)
	}
	return order
}

// reach returns the names of some packages, and of all that they need, directly or by others.
func (s shelf) reach(names ...string) map[string]bool {
	reached := map[string]bool{}
	var visit func(name string)
	visit = func(name string) {
		p, there := s[name]
		if !there || reached[name] {
			return
		}
		reached[name] = true
		for _, need := range p.Needs {
			visit(need.Name)
		}
	}
	for _, name := range names {
		visit(name)
	}
	return reached
}
