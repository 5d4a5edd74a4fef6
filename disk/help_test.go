package disk_test

import (
	"math/rand/v2"
	"slices"
	"strconv"
	"strings"
	"testing"

	"outfitter/api"
	"outfitter/disk"
)

// some is a machine with some of everything.
func some() api.Machine {
	return api.Machine{
		Facts:    []api.Setting{{Key: "cpu", Value: "x 64"}, {Key: "os", Value: ""}},
		Files:    []api.File{{Path: "A", Data: "\"\\\n\x00\xff~"}, {Path: "bin", Runs: true}, {Path: "bin-2/a", Data: "one", Runs: true}, {Path: "bin-2/b/c", Data: "two"}},
		Settings: []api.Setting{{Key: "UI/x", Value: "\\\""}, {Key: "z", Value: "9"}},
		Services: []api.Service{{Name: "a", Path: "none", On: true}, {Name: "b", Path: "bin-2/a", Auto: true}, {Name: "c", Path: "A", Auto: true, On: true}, {Name: "d", Path: "A"}},
	}
}

const someText = `fact cpu "x 64"
fact os ""
file A "\"\\\n\x00\xff~"
run bin ""
run bin-2/a "one"
file bin-2/b/c "two"
set UI/x "\\\""
set z "9"
service a none 0 1
service b bin-2/a 1 0
service c A 1 1
service d A 0 0
`

// wrong is a machine with nothing but a bad fact.
func wrong() api.Machine { return facts(pair("?", "")) }

func facts(l ...api.Setting) api.Machine { return api.Machine{Facts: l} }

func files(l ...api.File) api.Machine { return api.Machine{Files: l} }

func settings(l ...api.Setting) api.Machine { return api.Machine{Settings: l} }

func services(l ...api.Service) api.Machine { return api.Machine{Services: l} }

func pair(key, value string) api.Setting { return api.Setting{Key: key, Value: value} }

func file(path string) api.File { return api.File{Path: path} }

func service(name, path string) api.Service { return api.Service{Name: name, Path: path} }

// Changes of all kinds, without looking at what they are of.
func put(path, data string) api.Change {
	return api.Change{Kind: api.ChangePut, File: api.File{Path: path, Data: data}}
}

func remove(path string) api.Change { return api.Change{Kind: api.ChangeRemove, File: file(path)} }

func set(key, value string) api.Change {
	return api.Change{Kind: api.ChangeSet, Setting: pair(key, value)}
}

func unset(key string) api.Change {
	return api.Change{Kind: api.ChangeUnset, Setting: pair(key, "")}
}

func begin(s api.Service) api.Change { return api.Change{Kind: api.ChangeService, Service: s} }

func drop(name string) api.Change {
	return api.Change{Kind: api.ChangeDrop, Service: service(name, "")}
}

// full is a machine with as much of everything as there may be, and more of one thing.
func full(moreFacts, moreFiles, moreSettings, moreServices int) api.Machine {
	var m api.Machine
	for i := range api.MaxFacts + moreFacts {
		m.Facts = append(m.Facts, pair(numbered(i), ""))
	}
	for i := range api.MaxFiles + moreFiles {
		m.Files = append(m.Files, file(numbered(i)))
	}
	for i := range api.MaxSettings + moreSettings {
		m.Settings = append(m.Settings, pair(numbered(i), ""))
	}
	for i := range api.MaxServices + moreServices {
		m.Services = append(m.Services, service(numbered(i), "x"))
	}
	return m
}

// numbered are names in order.
func numbered(i int) string { return "n" + strconv.Itoa(10000+i) }

func long(n int) string { return strings.Repeat("a", n) }

// isNone reports whether a machine has nothing.
func isNone(m api.Machine) bool {
	return len(m.Facts)+len(m.Files)+len(m.Settings)+len(m.Services) == 0
}

func apply(t *testing.T, m api.Machine, l ...api.Change) api.Machine {
	t.Helper()
	n, e := disk.Apply(m, l)
	if e != api.OK {
		t.Fatalf("Apply(%v, %v): %d", m, l, e)
	}
	return n
}

func newDisk(t *testing.T, m api.Machine) *disk.Disk {
	t.Helper()
	d, e := disk.NewDisk(m)
	if e != api.OK {
		t.Fatalf("NewDisk(%v): %d", m, e)
	}
	return d
}

// guessedPaths lie below each other, and beside each other's directories.
var guessedPaths = []string{"a", "a-b", "a-b/c", "a.b", "a/b", "a/b/c", "a/b-", "a/bc", "a0", "b"}

// guessChange is a change by chance, which is often refused.
func guessChange(rnd *rand.Rand) api.Change {
	path := guessedPaths[rnd.IntN(len(guessedPaths))]
	name := string(rune('a' + rnd.IntN(4)))
	text := strconv.Itoa(rnd.IntN(1000))
	switch rnd.IntN(10) {
	case 0:
		return set(path, text)
	case 1:
		return unset(path)
	case 2:
		return drop(name)
	case 3:
		return begin(api.Service{Name: name, Path: path, Auto: rnd.IntN(2) == 0, On: rnd.IntN(2) == 0})
	case 4, 5, 6:
		return remove(path)
	}
	c := put(path, text)
	c.File.Runs = rnd.IntN(2) == 0
	return c
}

// guess is a machine by chance.
func guess(rnd *rand.Rand) api.Machine {
	m := facts(pair("os", "x"))
	for range rnd.IntN(20) {
		if n, e := disk.Apply(m, []api.Change{guessChange(rnd)}); e == api.OK {
			m = n
		}
	}
	return m
}

// clone is a machine that shares nothing.
func clone(m api.Machine) api.Machine {
	return api.Machine{Facts: slices.Clone(m.Facts), Files: slices.Clone(m.Files), Settings: slices.Clone(m.Settings), Services: slices.Clone(m.Services)}
}
