// Package disk has machines, their changes, and disks that can lose their power (doc/02-disk.md).
package disk

import (
	"iter"
	"slices"
	"strings"

	"outfitter/api"
	"outfitter/ver"
)

// Check validates a machine.
func Check(m api.Machine) api.Errno {
	if len(m.Facts) > api.MaxFacts || len(m.Files) > api.MaxFiles ||
		len(m.Settings) > api.MaxSettings || len(m.Services) > api.MaxServices {
		return api.ErrLarge
	}
	if e := checkList(m.Facts, keyOf, checkFact); e != api.OK {
		return e
	}
	if e := checkList(m.Files, pathOf, checkFile, besideOthers()); e != api.OK {
		return e
	}
	if e := checkList(m.Settings, keyOf, checkSetting); e != api.OK {
		return e
	}
	return checkList(m.Services, nameOf, checkService)
}

// Fact returns the value of a fact.
func Fact(m api.Machine, name string) (string, api.Errno) {
	s, e := lookUp(m, m.Facts, keyOf, ver.IsName, name)
	return s.Value, e
}

// File returns a file.
func File(m api.Machine, path string) (api.File, api.Errno) {
	return lookUp(m, m.Files, pathOf, ver.IsPath, path)
}

// Setting returns the value of a setting.
func Setting(m api.Machine, key string) (string, api.Errno) {
	s, e := lookUp(m, m.Settings, keyOf, ver.IsPath, key)
	return s.Value, e
}

// Service returns a service.
func Service(m api.Machine, name string) (api.Service, api.Errno) {
	return lookUp(m, m.Services, nameOf, ver.IsName, name)
}

// Below returns the paths of the files below a directory, for the empty one all.
func Below(m api.Machine, dir string) ([]string, api.Errno) {
	if e := Check(m); e != api.OK {
		return nil, e
	}
	if dir != "" && !ver.IsPath(dir) {
		return nil, api.ErrName
	}
	var l []string
	for _, f := range m.Files {
		if dir == "" || strings.HasPrefix(f.Path, dir+"/") {
			l = append(l, f.Path)
		}
	}
	return l, api.OK
}

// Same reports whether two machines, of any form, are equal.
func Same(a, b api.Machine) bool {
	return slices.Equal(a.Facts, b.Facts) && slices.Equal(a.Files, b.Files) &&
		slices.Equal(a.Settings, b.Settings) && slices.Equal(a.Services, b.Services)
}

// Size returns the number of bytes of all Data.
func Size(m api.Machine) (int, api.Errno) {
	if e := Check(m); e != api.OK {
		return 0, e
	}
	size := 0
	for _, f := range m.Files {
		size += len(f.Data)
	}
	return size, api.OK
}

// Boot returns the machine behind a start.
func Boot(m api.Machine) (api.Machine, api.Errno) {
	if e := Check(m); e != api.OK {
		return api.Machine{}, e
	}
	return boot(m), api.OK
}

// boot is Boot for a machine that has been checked.
func boot(m api.Machine) api.Machine {
	started := api.Machine{Facts: slices.Clone(m.Facts), Files: slices.Clone(m.Files), Settings: slices.Clone(m.Settings)}
	for _, s := range m.Services {
		s.On = s.Auto
		started.Services = append(started.Services, s)
	}
	return started
}

func keyOf(s api.Setting) string { return s.Key }

func pathOf(f api.File) string { return f.Path }

func nameOf(s api.Service) string { return s.Name }

// checkList looks at each thing of a list alone, then whether it is behind the one before, then at what else there is.
func checkList[T any](l []T, key func(T) string, alone func(T) api.Errno, more ...func(T) api.Errno) api.Errno {
	for i, thing := range l {
		if e := alone(thing); e != api.OK {
			return e
		}
		if i > 0 && key(thing) <= key(l[i-1]) {
			return api.ErrOrder
		}
		for _, check := range more {
			if e := check(thing); e != api.OK {
				return e
			}
		}
	}
	return api.OK
}

func checkFact(s api.Setting) api.Errno { return checkPair(s, ver.IsName) }

func checkSetting(s api.Setting) api.Errno { return checkPair(s, ver.IsPath) }

func checkPair(s api.Setting, isKey func(string) bool) api.Errno {
	switch {
	case !isKey(s.Key):
		return api.ErrName
	case !ver.IsValue(s.Value):
		return api.ErrForm
	}
	return api.OK
}

func checkFile(f api.File) api.Errno {
	switch {
	case !ver.IsPath(f.Path):
		return api.ErrName
	case len(f.Data) > api.MaxData:
		return api.ErrLarge
	}
	return api.OK
}

func checkService(s api.Service) api.Errno {
	if !ver.IsName(s.Name) || !ver.IsPath(s.Path) {
		return api.ErrName
	}
	return api.OK
}

// besideOthers looks at files one after the other, in order: a directory always comes before what lies below it.
func besideOthers() func(api.File) api.Errno {
	seen := map[string]bool{}
	return func(f api.File) api.Errno {
		for dir := range above(f.Path) {
			if seen[dir] {
				return api.ErrConflict
			}
		}
		seen[f.Path] = true
		return api.OK
	}
}

// above goes through the directories that a path lies below.
func above(path string) iter.Seq[string] {
	return func(yield func(string) bool) {
		for i := range len(path) {
			if path[i] == '/' && !yield(path[:i]) {
				return
			}
		}
	}
}

// lookUp returns the thing of a machine that has a name, path or key.
func lookUp[T any](m api.Machine, l []T, key func(T) string, isKey func(string) bool, name string) (T, api.Errno) {
	var none T
	if e := Check(m); e != api.OK {
		return none, e
	}
	if !isKey(name) {
		return none, api.ErrName
	}
	i, there := slices.BinarySearchFunc(l, name, func(thing T, name string) int {
		return strings.Compare(key(thing), name)
	})
	if !there {
		return none, api.ErrNone
	}
	return l[i], api.OK
}
