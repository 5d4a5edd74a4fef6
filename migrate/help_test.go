package migrate_test

import (
	"math/rand/v2"
	"reflect"
	"slices"
	"strconv"
	"strings"
	"testing"

	"outfitter/api"
	"outfitter/disk"
	"outfitter/migrate"
	"outfitter/ver"
)

// machine reads a machine from lines as disk.Print writes them.
func machine(lines ...string) api.Machine {
	m, n, e := disk.Parse(text(lines...))
	if e != api.OK {
		panic("line " + strconv.Itoa(n) + ": error " + strconv.Itoa(int(e)))
	}
	return m
}

// changes reads changes from lines as disk.PrintChanges writes them.
func changes(lines ...string) []api.Change {
	l, n, e := disk.ParseChanges(text(lines...))
	if e != api.OK {
		panic("line " + strconv.Itoa(n) + ": error " + strconv.Itoa(int(e)))
	}
	return l
}

// text puts a line feed behind each line.
func text(lines ...string) string {
	if len(lines) == 0 {
		return ""
	}
	return strings.Join(lines, "\n") + "\n"
}

// settings are written as KEY=VALUE, with single spaces between.
func settings(text string) []api.Setting {
	var l []api.Setting
	for _, word := range strings.Fields(text) {
		key, value, _ := strings.Cut(word, "=")
		l = append(l, api.Setting{Key: key, Value: value})
	}
	return l
}

// rules reads rules, all of which are right.
func rules(texts ...string) []api.Rule {
	var l []api.Rule
	for _, text := range texts {
		r, e := migrate.ParseRule(text)
		if e != api.OK {
			panic(text + ": error " + strconv.Itoa(int(e)))
		}
		l = append(l, r)
	}
	return l
}

func version(text string) api.Version {
	v, e := ver.Parse(text)
	if e != api.OK {
		panic(text)
	}
	return v
}

// move reads the range and the version of a move.
func move(from, to string, rules ...string) api.Move {
	r, e := ver.ParseRange(from)
	if e != api.OK {
		panic(from)
	}
	return api.Move{From: r, To: version(to), Rules: rules}
}

// full is a machine with as many files, settings and services as there may be.
func full() api.Machine {
	var m api.Machine
	for i := range api.MaxFiles {
		m.Files = append(m.Files, api.File{Path: numbered(i)})
	}
	m.Settings = many(api.MaxSettings)
	for i := range api.MaxServices {
		m.Services = append(m.Services, api.Service{Name: numbered(i), Path: "x"})
	}
	return m
}

// many are so many settings.
func many(n int) []api.Setting {
	var l []api.Setting
	for i := range n {
		l = append(l, api.Setting{Key: numbered(i), Value: "1"})
	}
	return l
}

// numbered are names in order.
func numbered(i int) string { return "n" + strconv.Itoa(10000000+i) }

func long(n int) string { return strings.Repeat("a", n) }

// longKey is a key of so many bytes, which are more than 161: it has parts of 40 bytes, and what is left.
func longKey(n int) string {
	return strings.Repeat(long(40)+"/", 4)[:161] + "/" + long(n-162)
}

// isSettings checks a result that is settings.
func isSettings(t *testing.T, what any, l []api.Setting, e api.Errno, want []api.Setting, wantErr api.Errno) {
	t.Helper()
	if !slices.Equal(l, want) || e != wantErr {
		t.Errorf("%v: %.1000v, %d, not %.1000v, %d", what, l, e, want, wantErr)
	}
}

// isList checks a result that is changes.
func isList(t *testing.T, what any, l, want []api.Change) {
	t.Helper()
	if !slices.Equal(l, want) {
		a, _ := disk.PrintChanges(l)
		b, _ := disk.PrintChanges(want)
		t.Errorf("%v: the changes are\n%.3000snot\n%.3000s", what, a, b)
	}
}

// guessedKeys lie below each other, and beside each other's tops.
var guessedKeys = []string{"a", "a-b", "a-b/c", "a.b", "a/b", "a/b/c", "aa", "b", "b/a", "b/c", "c/a/b", "c"}

func guessKey(rnd *rand.Rand) string { return guessedKeys[rnd.IntN(len(guessedKeys))] }

func guessValue(rnd *rand.Rand) string { return []string{"", "1", "2", `"`}[rnd.IntN(4)] }

// guessSettings are some by chance.
func guessSettings(rnd *rand.Rand) []api.Setting {
	var l []api.Setting
	for _, key := range slices.Sorted(slices.Values(guessedKeys)) {
		if rnd.IntN(2) == 0 {
			l = append(l, api.Setting{Key: key, Value: guessValue(rnd)})
		}
	}
	return l
}

// guessRule is a right one by chance, of one of some kinds.
func guessRule(rnd *rand.Rand, kinds ...int) api.Rule {
	for {
		r := api.Rule{Kind: kinds[rnd.IntN(len(kinds))], Key: guessKey(rnd)}
		switch r.Kind {
		case api.RuleRename, api.RulePrefix, api.RuleCopy:
			r.To = guessKey(rnd)
		case api.RuleSet, api.RuleDefault:
			r.New = guessValue(rnd)
		case api.RuleMap, api.RuleSwap:
			r.Old, r.New = guessValue(rnd), guessValue(rnd)
		}
		if migrate.CheckRule(r) == api.OK {
			return r
		}
	}
}

// same compares what can hold slices: nil and empty ones are the same.
func same(a, b any) bool { return sameValue(reflect.ValueOf(a), reflect.ValueOf(b)) }

func sameValue(a, b reflect.Value) bool {
	switch a.Kind() {
	case reflect.Slice:
		if a.Len() != b.Len() {
			return false
		}
		for i := range a.Len() {
			if !sameValue(a.Index(i), b.Index(i)) {
				return false
			}
		}
		return true
	case reflect.Struct:
		for i := range a.NumField() {
			if !sameValue(a.Field(i), b.Field(i)) {
				return false
			}
		}
		return true
	}
	return a.Equal(b)
}
