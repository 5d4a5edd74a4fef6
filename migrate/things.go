package migrate

import (
	"outfitter/api"
)

// place is what a change is of.
type place struct {
	kind int // of the change that brings such a thing
	name string
}

func placeOf(c api.Change) place {
	switch c.Kind {
	case api.ChangePut, api.ChangeRemove:
		return place{api.ChangePut, c.File.Path}
	case api.ChangeSet, api.ChangeUnset:
		return place{api.ChangeSet, c.Setting.Key}
	}
	return place{api.ChangeService, c.Service.Name}
}

// things are those of a machine, each one as the change that brings it just so.
type things map[place]api.Change

func thingsOf(m api.Machine) things {
	t := things{}
	for _, f := range m.Files {
		t.do(api.Change{Kind: api.ChangePut, File: f})
	}
	for _, s := range m.Settings {
		t.do(api.Change{Kind: api.ChangeSet, Setting: s})
	}
	for _, s := range m.Services {
		t.do(api.Change{Kind: api.ChangeService, Service: s})
	}
	return t
}

// change returns what makes things so as a step wants them, whether they are so already or not.
func (t things) change(s api.Step) (api.Change, api.Errno) {
	switch s.Kind {
	case api.StepSet:
		return api.Change{Kind: api.ChangeSet, Setting: api.Setting{Key: s.Name, Value: s.Value}}, api.OK
	case api.StepUnset:
		return api.Change{Kind: api.ChangeUnset, Setting: api.Setting{Key: s.Name}}, api.OK
	case api.StepWrite:
		return api.Change{Kind: api.ChangePut, File: api.File{Path: s.Name, Data: s.Value + "\n"}}, api.OK
	case api.StepErase:
		return api.Change{Kind: api.ChangeRemove, File: api.File{Path: s.Name}}, api.OK
	}
	// A service is turned on or off as it is.
	c, there := t[place{api.ChangeService, s.Name}]
	if !there {
		return api.Change{}, api.ErrNone
	}
	c.Service.On = s.Kind == api.StepStart
	return c, api.OK
}

// made reports whether a change has nothing to do.
func (t things) made(c api.Change) bool {
	old, there := t[placeOf(c)]
	if takes(c) {
		return !there
	}
	return there && old == c
}

func (t things) do(c api.Change) {
	if takes(c) {
		delete(t, placeOf(c))
	} else {
		t[placeOf(c)] = c
	}
}

// takes reports whether a change takes something away. (No step drops a service.)
func takes(c api.Change) bool { return c.Kind == api.ChangeRemove || c.Kind == api.ChangeUnset }
