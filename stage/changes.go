// Package stage makes several changes of a disk at once: behind cuts of the power all of them are made, or none
// (doc/06-stage.md).
package stage

import (
	"slices"
	"strings"

	"outfitter/api"
	"outfitter/disk"
)

// The directory of the stage files, and those that mean something.
const (
	stageDir    = "stage"
	journalFile = "stage/journal"
	doneMark    = "stage/done"
	backMark    = "stage/back"
)

// CheckChanges validates the changes of a transaction.
func CheckChanges(m api.Machine, l []api.Change) api.Errno {
	clean, e := Clean(m)
	if e != api.OK {
		return e
	}
	if has(m, stageDir) {
		return api.ErrConflict
	}
	if slices.ContainsFunc(l, isOfStage) {
		return api.ErrDenied
	}
	if _, e := disk.Apply(clean, l); e != api.OK {
		return e
	}
	if len(l) == 0 {
		return api.ErrEmpty
	}
	return checkPlaces(l)
}

// Clean returns a machine without its stage files.
func Clean(m api.Machine) (api.Machine, api.Errno) {
	paths, e := disk.Below(m, stageDir)
	if e != api.OK {
		return api.Machine{}, e
	}
	return disk.Apply(m, removals(paths, journalFile))
}

// Staged reports whether a machine has stage files.
func Staged(m api.Machine) (bool, api.Errno) {
	paths, e := disk.Below(m, stageDir)
	return len(paths) > 0, e
}

// isOfStage reports whether a change is of a file that belongs to this package.
func isOfStage(c api.Change) bool {
	isOfFile := c.Kind == api.ChangePut || c.Kind == api.ChangeRemove
	return isOfFile && (c.File.Path == stageDir || strings.HasPrefix(c.File.Path, stageDir+"/"))
}

// checkPlaces returns ErrTwice if two changes have the same place.
func checkPlaces(l []api.Change) api.Errno {
	seen := map[place]bool{}
	for _, c := range l {
		p := placeOf(c)
		if seen[p] {
			return api.ErrTwice
		}
		seen[p] = true
	}
	return api.OK
}

// has reports whether a machine, which has been checked, has a file.
func has(m api.Machine, path string) bool {
	_, e := disk.File(m, path)
	return e == api.OK
}

func put(path, data string) api.Change {
	return api.Change{Kind: api.ChangePut, File: api.File{Path: path, Data: data}}
}

func remove(path string) api.Change {
	return api.Change{Kind: api.ChangeRemove, File: api.File{Path: path}}
}

// removals remove files in order, but one of them, if it is there, behind all others.
func removals(paths []string, last string) []api.Change {
	var l, end []api.Change
	for _, path := range paths {
		if path == last {
			end = append(end, remove(path))
		} else {
			l = append(l, remove(path))
		}
	}
	return append(l, end...)
}
