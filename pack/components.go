package pack

import (
	"slices"

	"outfitter/api"
	"outfitter/ver"
)

// links has, for the place of each component, the places of those that it needs, in the order of its Needs.
type links [][]int

// Component returns a component.
func Component(p api.Package, name string) (api.Component, api.Errno) {
	if e := Check(p); e != api.OK {
		return api.Component{}, e
	}
	i, there := placesOf(p)[name]
	if !there {
		return api.Component{}, api.ErrNone
	}
	c := p.Components[i]
	c.When = copyCond(c.When)
	c.Needs = slices.Clone(c.Needs)
	c.Items = slices.Clone(c.Items)
	c.Steps = slices.Clone(c.Steps)
	return c, api.OK
}

// Closed returns the chosen components, those that are always chosen, and all that they need.
func Closed(p api.Package, chosen []string) ([]string, api.Errno) {
	in, e := closedOf(p, chosen)
	if e != api.OK {
		return nil, e
	}
	return namesOf(p, in), api.OK
}

// Defaults returns the components that are chosen as long as nobody chooses.
func Defaults(p api.Package, facts, settings []api.Setting) ([]string, api.Errno) {
	allowed, e := allowedOf(p, facts, settings)
	if e != api.OK {
		return nil, e
	}
	var start []int
	for i, c := range p.Components {
		if allowed[i] && (c.Default || c.Always) {
			start = append(start, i)
		}
	}
	return namesOf(p, linksOf(p).closed(start)), api.OK
}

// Allowed returns the components that hold, and need only such that hold.
func Allowed(p api.Package, facts, settings []api.Setting) ([]string, api.Errno) {
	allowed, e := allowedOf(p, facts, settings)
	if e != api.OK {
		return nil, e
	}
	return namesOf(p, allowed), api.OK
}

// closedOf is Closed, and reports for the place of each component whether it is in.
func closedOf(p api.Package, chosen []string) ([]bool, api.Errno) {
	if e := Check(p); e != api.OK {
		return nil, e
	}
	places := placesOf(p)
	twice := again[string]()
	var start []int
	for _, name := range chosen {
		i, there := places[name]
		if !there {
			return nil, api.ErrNone
		}
		if twice(name) {
			return nil, api.ErrTwice
		}
		start = append(start, i)
	}
	for i, c := range p.Components {
		if c.Always {
			start = append(start, i)
		}
	}
	return linksOf(p).closed(start), api.OK
}

// allowedOf is Allowed, and reports for the place of each component whether it is.
func allowedOf(p api.Package, facts, settings []api.Setting) ([]bool, api.Errno) {
	if e := Check(p); e != api.OK {
		return nil, e
	}
	holds := make([]bool, len(p.Components))
	for i, c := range p.Components {
		var e api.Errno
		if holds[i], e = ver.Holds(c.When, facts, settings); e != api.OK {
			return nil, e
		}
	}
	l := linksOf(p)
	allowed := make([]bool, len(p.Components))
	for i := range allowed {
		allowed[i] = true
		for j, needed := range l.closed([]int{i}) {
			allowed[i] = allowed[i] && (holds[j] || !needed)
		}
	}
	return allowed, api.OK
}

// placesOf has the places of the components by their names.
func placesOf(p api.Package) map[string]int {
	places := map[string]int{}
	for i, c := range p.Components {
		places[c.Name] = i
	}
	return places
}

// linksOf leaves out what is needed and not there.
func linksOf(p api.Package) links {
	places := placesOf(p)
	l := make(links, len(p.Components))
	for i, c := range p.Components {
		for _, name := range c.Needs {
			if j, there := places[name]; there {
				l[i] = append(l[i], j)
			}
		}
	}
	return l
}

// closed reports for each place whether it is one of these, or is needed by them, directly or by others.
func (l links) closed(start []int) []bool {
	in := make([]bool, len(l))
	for work := slices.Clone(start); len(work) > 0; {
		i := work[len(work)-1]
		work = work[:len(work)-1]
		if !in[i] {
			in[i] = true
			work = append(work, l[i]...)
		}
	}
	return in
}

// namesOf returns the names of the components at some places.
func namesOf(p api.Package, in []bool) []string {
	var names []string
	for i, c := range p.Components {
		if in[i] {
			names = append(names, c.Name)
		}
	}
	return names
}

func copyCond(c api.Cond) api.Cond {
	args := c.Args
	c.Args = nil
	for _, arg := range args {
		c.Args = append(c.Args, copyCond(arg))
	}
	return c
}
