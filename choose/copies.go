package choose

import (
	"slices"

	"outfitter/api"
)

// copyPackage shares no memory with what it copies.
func copyPackage(p api.Package) api.Package {
	p.Needs = copyEach(p.Needs, copyNeed)
	p.Bars = copyEach(p.Bars, copyNeed)
	p.Components = copyEach(p.Components, copyComponent)
	p.Moves = copyEach(p.Moves, copyMove)
	return p
}

func copyEach[T any](l []T, copyOne func(T) T) []T {
	var made []T
	for _, thing := range l {
		made = append(made, copyOne(thing))
	}
	return made
}

func copyNeed(n api.Need) api.Need {
	n.Range.Spans = slices.Clone(n.Range.Spans)
	return n
}

func copyComponent(c api.Component) api.Component {
	c.When = copyCond(c.When)
	c.Needs = slices.Clone(c.Needs)
	c.Items = slices.Clone(c.Items)
	c.Steps = slices.Clone(c.Steps)
	return c
}

func copyCond(c api.Cond) api.Cond {
	c.Args = copyEach(c.Args, copyCond)
	return c
}

func copyMove(m api.Move) api.Move {
	m.From.Spans = slices.Clone(m.From.Spans)
	m.Rules = slices.Clone(m.Rules)
	return m
}
