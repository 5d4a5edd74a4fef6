package disk

import (
	"slices"

	"outfitter/api"
	"outfitter/ver"
)

// CheckChange validates a change.
func CheckChange(c api.Change) api.Errno {
	if e := checkThing(c); e != api.OK {
		return e
	}
	if c != needed(c) {
		return api.ErrForm
	}
	return api.OK
}

// Apply makes changes of a machine, one after the other.
func Apply(m api.Machine, l []api.Change) (api.Machine, api.Errno) {
	if e := Check(m); e != api.OK {
		return api.Machine{}, e
	}
	t := thingsOf(m)
	for _, c := range l {
		if e := t.refuse(c); e != api.OK {
			return api.Machine{}, e
		}
		t.do(c)
	}
	return t.machine(), api.OK
}

// Diff returns changes that make b of a.
func Diff(a, b api.Machine) ([]api.Change, api.Errno) {
	if e := Check(a); e != api.OK {
		return nil, e
	}
	if e := Check(b); e != api.OK {
		return nil, e
	}
	if !slices.Equal(a.Facts, b.Facts) {
		return nil, api.ErrConflict
	}
	return append(goings(a, b), comings(a, b)...), api.OK
}

// Undo returns changes that lead back from what Apply makes of a machine.
func Undo(m api.Machine, l []api.Change) ([]api.Change, api.Errno) {
	changed, e := Apply(m, l)
	if e != api.OK {
		return nil, e
	}
	return Diff(changed, m)
}

// checkThing looks at what a change is of, as far as its kind needs it.
func checkThing(c api.Change) api.Errno {
	// What a kind does not need is zero behind needed, and a file or setting with a path or key alone is right.
	n := needed(c)
	switch c.Kind {
	case api.ChangePut, api.ChangeRemove:
		return checkFile(n.File)
	case api.ChangeSet, api.ChangeUnset:
		return checkSetting(n.Setting)
	case api.ChangeService:
		return checkService(n.Service)
	case api.ChangeDrop:
		if !ver.IsName(n.Service.Name) {
			return api.ErrName
		}
		return api.OK
	}
	return api.ErrKind
}

// needed returns a change with nothing but what its kind needs.
func needed(c api.Change) api.Change {
	n := api.Change{Kind: c.Kind}
	switch c.Kind {
	case api.ChangePut:
		n.File = c.File
	case api.ChangeRemove:
		n.File.Path = c.File.Path
	case api.ChangeSet:
		n.Setting = c.Setting
	case api.ChangeUnset:
		n.Setting.Key = c.Setting.Key
	case api.ChangeService:
		n.Service = c.Service
	case api.ChangeDrop:
		n.Service.Name = c.Service.Name
	}
	return n
}

// goings take away what a has and b has not.
func goings(a, b api.Machine) []api.Change {
	var l []api.Change
	for _, f := range missing(a.Files, b.Files, pathOf) {
		l = append(l, api.Change{Kind: api.ChangeRemove, File: api.File{Path: f.Path}})
	}
	for _, s := range missing(a.Settings, b.Settings, keyOf) {
		l = append(l, api.Change{Kind: api.ChangeUnset, Setting: api.Setting{Key: s.Key}})
	}
	for _, s := range missing(a.Services, b.Services, nameOf) {
		l = append(l, api.Change{Kind: api.ChangeDrop, Service: api.Service{Name: s.Name}})
	}
	return l
}

// comings make what b has otherwise than a, or alone.
func comings(a, b api.Machine) []api.Change {
	var l []api.Change
	for _, f := range unlike(a.Files, b.Files, pathOf) {
		l = append(l, api.Change{Kind: api.ChangePut, File: f})
	}
	for _, s := range unlike(a.Settings, b.Settings, keyOf) {
		l = append(l, api.Change{Kind: api.ChangeSet, Setting: s})
	}
	for _, s := range unlike(a.Services, b.Services, nameOf) {
		l = append(l, api.Change{Kind: api.ChangeService, Service: s})
	}
	return l
}

// missing returns the things of a whose keys b has not.
func missing[T any](a, b []T, key func(T) string) []T {
	there := byKey(b, key)
	return chosen(a, func(thing T) bool {
		_, has := there[key(thing)]
		return !has
	})
}

// unlike returns the things of b that a has not, or otherwise.
func unlike[T comparable](a, b []T, key func(T) string) []T {
	there := byKey(a, key)
	return chosen(b, func(thing T) bool {
		old, has := there[key(thing)]
		return !has || old != thing
	})
}

func chosen[T any](l []T, so func(T) bool) []T {
	var some []T
	for _, thing := range l {
		if so(thing) {
			some = append(some, thing)
		}
	}
	return some
}
