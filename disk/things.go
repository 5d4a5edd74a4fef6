package disk

import (
	"maps"
	"slices"

	"outfitter/api"
)

// things is a machine that is being changed: so a change costs the same, however much there is.
type things struct {
	facts    []api.Setting
	files    map[string]api.File
	below    map[string]int // how many files lie below each directory that has some
	settings map[string]api.Setting
	services map[string]api.Service
}

// thingsOf takes over a machine that has been checked.
func thingsOf(m api.Machine) *things {
	t := &things{
		facts:    slices.Clone(m.Facts),
		files:    byKey(m.Files, pathOf),
		below:    map[string]int{},
		settings: byKey(m.Settings, keyOf),
		services: byKey(m.Services, nameOf),
	}
	for _, f := range m.Files {
		t.count(f.Path, 1)
	}
	return t
}

// machine returns what there is, in order.
func (t *things) machine() api.Machine {
	return api.Machine{
		Facts:    slices.Clone(t.facts),
		Files:    inOrder(t.files),
		Settings: inOrder(t.settings),
		Services: inOrder(t.services),
	}
}

// refuse returns why a change cannot be made, or OK.
func (t *things) refuse(c api.Change) api.Errno {
	if e := CheckChange(c); e != api.OK {
		return e
	}
	switch c.Kind {
	case api.ChangePut:
		if t.isInTheWay(c.File.Path) {
			return api.ErrConflict
		}
		return room(t.files, c.File.Path, api.MaxFiles)
	case api.ChangeRemove:
		return known(t.files, c.File.Path)
	case api.ChangeSet:
		return room(t.settings, c.Setting.Key, api.MaxSettings)
	case api.ChangeUnset:
		return known(t.settings, c.Setting.Key)
	case api.ChangeService:
		return room(t.services, c.Service.Name, api.MaxServices)
	}
	return known(t.services, c.Service.Name)
}

// do makes a change that is not refused.
func (t *things) do(c api.Change) {
	switch c.Kind {
	case api.ChangePut:
		if _, there := t.files[c.File.Path]; !there {
			t.count(c.File.Path, 1)
		}
		t.files[c.File.Path] = c.File
	case api.ChangeRemove:
		t.count(c.File.Path, -1)
		delete(t.files, c.File.Path)
	case api.ChangeSet:
		t.settings[c.Setting.Key] = c.Setting
	case api.ChangeUnset:
		delete(t.settings, c.Setting.Key)
	case api.ChangeService:
		t.services[c.Service.Name] = c.Service
	case api.ChangeDrop:
		delete(t.services, c.Service.Name)
	}
}

// isInTheWay reports whether a file with this path would lie below another one, or another one below it.
func (t *things) isInTheWay(path string) bool {
	for dir := range above(path) {
		if _, there := t.files[dir]; there {
			return true
		}
	}
	return t.below[path] > 0
}

// count adds to the number of files below each directory of a path.
func (t *things) count(path string, more int) {
	for dir := range above(path) {
		t.below[dir] += more
		if t.below[dir] == 0 {
			delete(t.below, dir)
		}
	}
}

// room returns ErrLarge if a thing would be one too many.
func room[T any](all map[string]T, key string, most int) api.Errno {
	if _, there := all[key]; !there && len(all) >= most {
		return api.ErrLarge
	}
	return api.OK
}

// known returns ErrNone if there is no such thing.
func known[T any](all map[string]T, key string) api.Errno {
	if _, there := all[key]; !there {
		return api.ErrNone
	}
	return api.OK
}

func byKey[T any](l []T, key func(T) string) map[string]T {
	all := map[string]T{}
	for _, thing := range l {
		all[key(thing)] = thing
	}
	return all
}

func inOrder[T any](all map[string]T) []T {
	var l []T
	for _, key := range slices.Sorted(maps.Keys(all)) {
		l = append(l, all[key])
	}
	return l
}
