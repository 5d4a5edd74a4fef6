package stage_test

import (
	"math/rand/v2"
	"reflect"
	"slices"
	"strconv"
	"strings"
	"testing"

	"outfitter/api"
	"outfitter/disk"
	"outfitter/stage"
)

// machine reads a machine from lines as disk.Print writes them.
func machine(lines ...string) api.Machine {
	m, n, e := disk.Parse(text(lines...))
	if e != api.OK {
		panic("line " + strconv.Itoa(n) + ": error " + strconv.Itoa(int(e)))
	}
	return m
}

// changes reads changes from lines as disk.PrintChanges writes them.
func changes(lines ...string) []api.Change {
	l, n, e := disk.ParseChanges(text(lines...))
	if e != api.OK {
		panic("line " + strconv.Itoa(n) + ": error " + strconv.Itoa(int(e)))
	}
	return l
}

// text puts a line feed behind each line.
func text(lines ...string) string {
	if len(lines) == 0 {
		return ""
	}
	return strings.Join(lines, "\n") + "\n"
}

// sealed is a text with the line of its sum.
func sealed(text string) string { return text + "sum " + disk.SumOf(text) + "\n" }

// before is a machine with some of everything.
func before() api.Machine {
	return machine(`fact os "x"`, `file a "one"`, `run bin/app "first"`, `file etc "old"`, `file same "as it is"`, `set k "1"`, `set old "o"`, `service s a 1 1`, `service t a 0 1`, `service u a 0 0`)
}

// some are changes of that machine, of each kind.
func some() []api.Change {
	return changes(`putrun bin/app "second"`, `remove etc`, `put etc/conf "new"`, `put same "as it is"`, `set k "2"`, `unset old`, `service s a 0 0`, `drop t`, `service v bin/app 1 0`, `put x ""`)
}

// someOld lead back from these.
func someOld() []api.Change {
	return changes(`remove etc/conf`, `remove x`, `drop v`, `putrun bin/app "first"`, `put etc "old"`, `set k "1"`, `set old "o"`, `service s a 1 1`, `service t a 0 1`, `put same "as it is"`)
}

// someJournal is the text of their journal.
func someJournal() string { return journal("t1", some(), someOld()) }

// journal writes the journal of a transaction, whatever its changes are, as far as disk.PrintChanges can.
func journal(id string, l, old []api.Change) string {
	return sealed("journal " + id + "\nchanges " + strconv.Itoa(len(l)) + "\n" + textOf(l) + "old " + strconv.Itoa(len(old)) + "\n" + textOf(old))
}

func textOf(l []api.Change) string {
	lines, e := disk.PrintChanges(l)
	if e != api.OK {
		panic("error " + strconv.Itoa(int(e)))
	}
	return lines
}

func put(path, data string) api.Change {
	return api.Change{Kind: api.ChangePut, File: api.File{Path: path, Data: data}}
}

func remove(path string) api.Change {
	return api.Change{Kind: api.ChangeRemove, File: api.File{Path: path}}
}

// with is a machine with further files.
func with(m api.Machine, files ...api.Change) api.Machine {
	n, e := disk.Apply(m, files)
	if e != api.OK {
		panic("error " + strconv.Itoa(int(e)))
	}
	return n
}

// full is a machine with so many files, and so many settings and services as there may be.
func full(files int) api.Machine {
	var m api.Machine
	for i := range files {
		m.Files = append(m.Files, api.File{Path: numbered(i)})
	}
	for i := range api.MaxSettings {
		m.Settings = append(m.Settings, api.Setting{Key: numbered(i)})
	}
	for i := range api.MaxServices {
		m.Services = append(m.Services, api.Service{Name: numbered(i), Path: "x"})
	}
	return m
}

// numbered are names in order.
func numbered(i int) string { return "n" + strconv.Itoa(10000+i) }

func long(n int) string { return strings.Repeat("a", n) }

func isNone(m api.Machine) bool { return disk.Same(m, api.Machine{}) }

// isMachine checks a result that is a machine.
func isMachine(t *testing.T, what any, m, want api.Machine) {
	t.Helper()
	if !disk.Same(m, want) {
		a, _ := disk.Print(m)
		b, _ := disk.Print(want)
		t.Fatalf("%v: the machine is\n%.3000snot\n%.3000s", what, a, b)
	}
}

// isList checks a result that is changes.
func isList(t *testing.T, what any, l, want []api.Change) {
	t.Helper()
	if !slices.Equal(l, want) {
		a, _ := disk.PrintChanges(l)
		b, _ := disk.PrintChanges(want)
		t.Errorf("%v: the changes are\n%.3000snot\n%.3000s", what, a, b)
	}
}

func newDisk(t *testing.T, m api.Machine) *disk.Disk {
	t.Helper()
	d, e := disk.NewDisk(m)
	if e != api.OK {
		t.Fatal("NewDisk", e)
	}
	return d
}

// cutAt is a new disk whose power is to be cut.
func cutAt(t *testing.T, m api.Machine, after int, torn bool) *disk.Disk {
	t.Helper()
	d := newDisk(t, m)
	if e := d.Cut(after, torn); e != api.OK {
		t.Fatal("Cut", e)
	}
	return d
}

// writes sees that a work on a disk of a machine makes just these writes, in order, and that the power can be cut in
// each one of them, whereupon nothing more is written.
func writes(t *testing.T, what any, m api.Machine, want []api.Change, work func(d *disk.Disk) api.Errno) {
	t.Helper()
	at := m
	for i, c := range want {
		for _, torn := range []bool{false, true} {
			d := cutAt(t, m, i, torn)
			if e := work(d); e != api.ErrCut {
				t.Fatal(what, "cut at", i, e)
			}
			there, many := at, i
			if torn && c.Kind == api.ChangePut {
				half := c
				half.File.Data = c.File.Data[:len(c.File.Data)/2]
				there, many = with(at, half), i+1
			}
			isMachine(t, []any{what, "cut at", i, torn}, d.Peek(), there)
			if d.Writes() != many {
				t.Fatal(what, "cut at", i, torn, d.Writes())
			}
		}
		at = with(at, c)
	}
	d := cutAt(t, m, len(want), true)
	if e := work(d); e != api.OK || d.Writes() != len(want) {
		t.Fatal(what, e, d.Writes(), "not", len(want))
	}
	isMachine(t, what, d.Peek(), at)
}

// recovery is Recover as a work for writes, with what it says if it is not cut.
func recovery(t *testing.T, id string, was int) func(d *disk.Disk) api.Errno {
	return func(d *disk.Disk) api.Errno {
		t.Helper()
		gotId, gotWas, e := stage.Recover(d)
		if e == api.OK && (gotId != id || gotWas != was) || e != api.OK && (gotId != "" || gotWas != 0) {
			t.Errorf("Recover: %q, %d, %d, not %q, %d", gotId, gotWas, e, id, was)
		}
		return e
	}
}

// takingBack is Back as such a work.
func takingBack(t *testing.T, id string) func(d *disk.Disk) api.Errno {
	return func(d *disk.Disk) api.Errno {
		t.Helper()
		gotId, e := stage.Back(d)
		if e == api.OK && gotId != id || e != api.OK && gotId != "" {
			t.Errorf("Back: %q, %d, not %q", gotId, e, id)
		}
		return e
	}
}

// guessedPaths lie below each other, and beside each other's directories.
var guessedPaths = []string{"a", "a-b", "a-b/c", "a.b", "a/b", "a/b/c", "a/b-", "b", "stage-", "t/stage"}

// guessChange is a change by chance, which is often refused.
func guessChange(rnd *rand.Rand) api.Change {
	path := guessedPaths[rnd.IntN(len(guessedPaths))]
	name := string(rune('a' + rnd.IntN(4)))
	data := strings.Repeat(strconv.Itoa(rnd.IntN(3)), rnd.IntN(4))
	c := api.Change{Kind: 1 + rnd.IntN(6)}
	if rnd.IntN(2) == 0 {
		c.Kind = 1 + rnd.IntN(2)
	}
	switch c.Kind {
	case api.ChangePut:
		c.File = api.File{Path: path, Data: data, Runs: rnd.IntN(3) == 0}
	case api.ChangeRemove:
		c.File.Path = path
	case api.ChangeSet:
		c.Setting = api.Setting{Key: path, Value: data}
	case api.ChangeUnset:
		c.Setting.Key = path
	case api.ChangeService:
		c.Service = api.Service{Name: name, Path: path, Auto: rnd.IntN(2) == 0, On: rnd.IntN(2) == 0}
	case api.ChangeDrop:
		c.Service.Name = name
	}
	return c
}

// guess is a machine by chance.
func guess(rnd *rand.Rand) api.Machine {
	m := machine(`fact os "x"`)
	for range rnd.IntN(20) {
		if n, e := disk.Apply(m, []api.Change{guessChange(rnd)}); e == api.OK {
			m = n
		}
	}
	return m
}

// guessChanges are changes by chance that a transaction can make.
func guessChanges(rnd *rand.Rand, m api.Machine) []api.Change {
	var l []api.Change
	for len(l) == 0 || rnd.IntN(6) > 0 {
		more := append(slices.Clone(l), guessChange(rnd))
		if rnd.IntN(8) == 0 && len(m.Files) > 0 {
			more[len(l)] = api.Change{Kind: api.ChangePut, File: m.Files[rnd.IntN(len(m.Files))]}
		}
		if stage.CheckChanges(m, more) == api.OK {
			l = more
		}
	}
	return l
}

// stopped is a machine without a service that is on: what a start does to services does not count.
func stopped(m api.Machine) api.Machine {
	m.Services = slices.Clone(m.Services)
	for i := range m.Services {
		m.Services[i].On = false
	}
	return m
}

// same compares what can hold slices: nil and empty ones are the same.
func same(a, b any) bool { return sameValue(reflect.ValueOf(a), reflect.ValueOf(b)) }

func sameValue(a, b reflect.Value) bool {
	switch a.Kind() {
	case reflect.Slice:
		if a.Len() != b.Len() {
			return false
		}
		for i := range a.Len() {
			if !sameValue(a.Index(i), b.Index(i)) {
				return false
			}
		}
		return true
	case reflect.Struct:
		for i := range a.NumField() {
			if !sameValue(a.Field(i), b.Field(i)) {
				return false
			}
		}
		return true
	}
	return a.Equal(b)
}
