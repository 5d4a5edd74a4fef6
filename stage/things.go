package stage

import (
	"outfitter/api"
)

// place is what a change is of.
type place struct {
	kind int // of the change that brings such a thing
	name string
}

func placeOf(c api.Change) place {
	switch c.Kind {
	case api.ChangePut, api.ChangeRemove:
		return place{api.ChangePut, c.File.Path}
	case api.ChangeSet, api.ChangeUnset:
		return place{api.ChangeSet, c.Setting.Key}
	}
	return place{api.ChangeService, c.Service.Name}
}

// things are those of a machine, each one as the change that brings it just so.
type things map[place]api.Change

func thingsOf(m api.Machine) things {
	t := things{}
	for _, f := range m.Files {
		t.do(api.Change{Kind: api.ChangePut, File: f})
	}
	for _, s := range m.Settings {
		t.do(api.Change{Kind: api.ChangeSet, Setting: s})
	}
	for _, s := range m.Services {
		t.do(api.Change{Kind: api.ChangeService, Service: s})
	}
	return t
}

// made reports whether a change has nothing to do.
func (t things) made(c api.Change) bool {
	there, has := t[placeOf(c)]
	if brings(c) {
		return has && there == c
	}
	return !has
}

func (t things) do(c api.Change) {
	if brings(c) {
		t[placeOf(c)] = c
	} else {
		delete(t, placeOf(c))
	}
}

// brings reports whether a thing is there behind a change.
func brings(c api.Change) bool {
	return c.Kind == api.ChangePut || c.Kind == api.ChangeSet || c.Kind == api.ChangeService
}
