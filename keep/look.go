package keep

import (
	"cmp"
	"strings"

	"outfitter/api"
	"outfitter/disk"
)

// The directory of the files of package stage.
const stageDir = "stage"

// things are those of a machine, each one as the change that brings it just so.
type things map[place]api.Change

func thingsOf(m api.Machine) things {
	t := things{}
	for _, f := range m.Files {
		t.bring(api.Change{Kind: api.ChangePut, File: f})
	}
	for _, s := range m.Settings {
		t.bring(api.Change{Kind: api.ChangeSet, Setting: s})
	}
	for _, s := range m.Services {
		t.bring(api.Change{Kind: api.ChangeService, Service: s})
	}
	return t
}

func (t things) bring(c api.Change) { t[placeOf(c)] = c }

// state compares a held thing with those that are there.
func (t things) state(h api.Held) int {
	c, isThere := t[heldAt(h)]
	switch {
	case !isThere:
		return api.HeldGone
	case sumOf(c) == h.Sum:
		return api.HeldSame
	}
	return api.HeldChanged
}

// hasBelow reports whether there are files below a directory.
func (t things) hasBelow(dir string) bool {
	for at := range t {
		if at.kind == api.ChangePut && strings.HasPrefix(at.name, dir+"/") {
			return true
		}
	}
	return false
}

// State compares a held thing with a machine.
func State(m api.Machine, h api.Held) (int, api.Errno) {
	if e := cmp.Or(disk.Check(m), Check(api.Keep{Held: []api.Held{h}})); e != api.OK {
		return 0, e
	}
	return thingsOf(m).state(h), api.OK
}

// Audit tells what is wrong with what is held.
func Audit(m api.Machine, k api.Keep) ([]api.Fault, api.Errno) {
	if e := cmp.Or(disk.Check(m), Check(k)); e != api.OK {
		return nil, e
	}
	there := thingsOf(m)
	var faults []api.Fault
	for _, h := range k.Held {
		state := there.state(h)
		if isFault(h.Kind, state) {
			faults = append(faults, api.Fault{Owner: h.Owner, Path: h.Path, Kind: h.Kind, State: state})
		}
	}
	return faults, api.OK
}

// isFault reports whether it is wrong that a thing of a kind is in a state.
func isFault(kind, state int) bool {
	if isUsers(kind) {
		return kind == api.ItemText && state == api.HeldGone
	}
	return state != api.HeldSame
}

// Strays returns the paths of the files below a directory, for the empty one of all, that nobody holds.
func Strays(m api.Machine, k api.Keep, dir string) ([]string, api.Errno) {
	if e := cmp.Or(disk.Check(m), Check(k)); e != api.OK {
		return nil, e
	}
	paths, e := disk.Below(m, dir)
	if e != api.OK {
		return nil, e
	}
	isHeld := map[place]bool{}
	for _, h := range k.Held {
		isHeld[heldAt(h)] = true
	}
	var strays []string
	for _, path := range paths {
		if !isHeld[place{api.ChangePut, path}] && !isStaged(path) {
			strays = append(strays, path)
		}
	}
	return strays, api.OK
}

// isStaged reports whether a path is that of a stage file.
func isStaged(path string) bool { return strings.HasPrefix(path, stageDir+"/") }
