package keep_test

import (
	"cmp"
	"reflect"
	"slices"
	"strconv"
	"strings"
	"testing"

	"outfitter/api"
	"outfitter/disk"
	"outfitter/keep"
)

// lines of a text, without the blanks around them; empty ones do not count.
func lines(text string) []string {
	var l []string
	for _, line := range strings.Split(text, "\n") {
		if line = strings.Trim(line, " \t"); line != "" {
			l = append(l, line)
		}
	}
	return l
}

// ended puts a line feed behind each line.
func ended(text string) string {
	var all string
	for _, line := range lines(text) {
		all += line + "\n"
	}
	return all
}

// machine reads a machine from lines as disk.Print writes them.
func machine(text string) api.Machine {
	m, n, e := disk.Parse(ended(text))
	if e != api.OK {
		panic(text + ": line " + strconv.Itoa(n) + ": error " + strconv.Itoa(int(e)))
	}
	return m
}

// changes reads changes from lines as disk.PrintChanges writes them.
func changes(text string) []api.Change {
	l, n, e := disk.ParseChanges(ended(text))
	if e != api.OK {
		panic(text + ": line " + strconv.Itoa(n) + ": error " + strconv.Itoa(int(e)))
	}
	return l
}

var kinds = []string{"", "program", "shared", "text", "data", "setting", "service"}

// item reads an item, as KIND PLACE "VALUE", with a + behind the kind of a file that runs, or a service with Auto.
func item(line string) api.Item {
	words := strings.SplitN(line, " ", 3)
	kind, marked := strings.CutSuffix(words[0], "+")
	value, e := disk.Unquote(words[2])
	x := api.Item{Kind: slices.Index(kinds, kind)}
	if x.Kind < 1 || e != api.OK {
		panic(line)
	}
	switch x.Kind {
	case api.ItemSetting:
		x.Setting = api.Setting{Key: words[1], Value: value}
	case api.ItemService:
		x.Service = api.Service{Name: words[1], Path: value, Auto: marked}
	default:
		x.File = api.File{Path: words[1], Data: value, Runs: marked}
	}
	return x
}

func items(text string) []api.Item {
	var l []api.Item
	for _, line := range lines(text) {
		l = append(l, item(line))
	}
	return l
}

// holding is an item as an owner holds it.
func holding(owner string, x api.Item) api.Held {
	h := api.Held{Owner: owner, Kind: x.Kind, Path: x.File.Path + x.Setting.Key + x.Service.Name}
	text := "-" + x.Setting.Value + x.Service.Path + x.File.Data
	switch {
	case x.File.Runs:
		text = "r" + text[1:]
	case x.Service.Auto:
		text = "a" + text[1:]
	}
	h.Sum = disk.SumOf(text)
	if x.Kind == api.ItemText {
		h.Base = x.File.Data
	}
	return h
}

// keeping reads a keep, of lines with an owner and an item.
func keeping(text string) api.Keep {
	var k api.Keep
	for _, line := range lines(text) {
		owner, rest, _ := strings.Cut(line, " ")
		k.Held = append(k.Held, holding(owner, item(rest)))
	}
	return k
}

// sorted puts held things in order.
func sorted(l []api.Held) api.Keep {
	thing := func(h api.Held) int { return max(h.Kind, api.ItemData) }
	l = slices.Clone(l)
	slices.SortFunc(l, func(a, b api.Held) int {
		return cmp.Or(cmp.Compare(a.Owner, b.Owner), cmp.Compare(thing(a), thing(b)), cmp.Compare(a.Path, b.Path))
	})
	return api.Keep{Held: l}
}

// behind is a keep in which an owner holds just these items.
func behind(k api.Keep, owner string, l []api.Item) api.Keep {
	var all []api.Held
	for _, h := range k.Held {
		if h.Owner != owner {
			all = append(all, h)
		}
	}
	for _, x := range l {
		all = append(all, holding(owner, x))
	}
	return sorted(all)
}

var noteKinds = []string{"", "replaced", "again", "merged", "clash", "kept", "left"}

// notes reads notes, of lines with a kind and a path.
func notes(text string) []api.Note {
	var l []api.Note
	for _, line := range lines(text) {
		kind, path, _ := strings.Cut(line, " ")
		n := api.Note{Kind: slices.Index(noteKinds, kind), Path: path}
		if n.Kind < 1 {
			panic(line)
		}
		l = append(l, n)
	}
	return l
}

// manner reads how things are done: `force`, `all`, both, or nothing.
func manner(text string) api.Manner {
	return api.Manner{Force: strings.Contains(text, "force"), All: strings.Contains(text, "all")}
}

// isResult checks a result.
func isResult(t *testing.T, what any, r, want api.Result) {
	t.Helper()
	if !slices.Equal(r.Changes, want.Changes) {
		a, _ := disk.PrintChanges(r.Changes)
		b, _ := disk.PrintChanges(want.Changes)
		t.Fatalf("%v: the changes are\n%.3000snot\n%.3000s", what, a, b)
	}
	if !slices.Equal(r.Notes, want.Notes) {
		t.Fatalf("%v: the notes are %.1000v, not %.1000v", what, r.Notes, want.Notes)
	}
	isKeep(t, what, r.Keep, want.Keep)
}

func isKeep(t *testing.T, what any, k, want api.Keep) {
	t.Helper()
	if !slices.Equal(k.Held, want.Held) {
		t.Fatalf("%v: the keep is\n%.3000v\nnot\n%.3000v", what, k.Held, want.Held)
	}
}

func isMachine(t *testing.T, what any, m, want api.Machine) {
	t.Helper()
	if !disk.Same(m, want) {
		a, _ := disk.Print(m)
		b, _ := disk.Print(want)
		t.Fatalf("%v: the machine is\n%.3000snot\n%.3000s", what, a, b)
	}
}

// isNothing reports whether a result is zero.
func isNothing(r api.Result) bool { return same(r, api.Result{}) }

// does makes the changes of a result.
func does(t *testing.T, m api.Machine, r api.Result, e api.Errno) (api.Machine, api.Keep) {
	t.Helper()
	if e != api.OK {
		t.Fatal("error", e)
	}
	m, e = disk.Apply(m, r.Changes)
	if e != api.OK {
		t.Fatal("Apply: error", e)
	}
	if e := keep.Check(r.Keep); e != api.OK {
		t.Fatal("Check: error", e)
	}
	return m, r.Keep
}

// wrongMachine and wrongKeep have errors that nothing else has here.
func wrongMachine() api.Machine {
	return api.Machine{Services: []api.Service{{Name: "b", Path: "b"}, {Name: "a", Path: "a"}}}
}

func wrongKeep() api.Keep { return api.Keep{Held: []api.Held{{Owner: "a", Kind: 7}}} }

// full is a keep of so many things of an owner, and a machine which has them.
func full(owner string, n int) (api.Machine, api.Keep, []api.Item) {
	var m api.Machine
	var l []api.Item
	for i := range n {
		f := api.File{Path: numbered(i)}
		l = append(l, api.Item{Kind: api.ItemData, File: f})
		if i < api.MaxFiles {
			m.Files = append(m.Files, f)
		}
	}
	return m, behind(api.Keep{}, owner, l), l
}

// numbered are names in order.
func numbered(i int) string { return "n" + strconv.Itoa(10000000+i) }

func long(n int) string { return strings.Repeat("a", n) }

// longPath is a path of so many bytes, which are more than 161: it has parts of 40 bytes, and what is left.
func longPath(n int) string {
	return strings.Repeat(long(40)+"/", 4)[:161] + "/" + long(n-162)
}

// same compares what can hold slices: nil and empty ones are the same.
func same(a, b any) bool { return sameValue(reflect.ValueOf(a), reflect.ValueOf(b)) }

func sameValue(a, b reflect.Value) bool {
	switch a.Kind() {
	case reflect.Slice:
		if a.Len() != b.Len() {
			return false
		}
		for i := range a.Len() {
			if !sameValue(a.Index(i), b.Index(i)) {
				return false
			}
		}
		return true
	case reflect.Struct:
		for i := range a.NumField() {
			if !sameValue(a.Field(i), b.Field(i)) {
				return false
			}
		}
		return true
	}
	return a.Equal(b)
}
