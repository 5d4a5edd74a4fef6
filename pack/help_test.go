package pack_test

import (
	"math/rand/v2"
	"reflect"
	"strconv"
	"strings"
	"testing"

	"outfitter/api"
	"outfitter/pack"
)

var always = api.Cond{Kind: api.CondTrue}

// some is a package with some of everything.
func some() api.Package {
	return api.Package{
		Name: "some", Version: api.Version{Major: 1, Minor: 2, Patch: 3, Early: "a.1"}, Title: `A "title" \`,
		Needs: []api.Need{
			{Name: "lib", Range: api.Range{Spans: []api.Span{{HasFrom: true, From: number(1), HasTo: true, To: number(2)}, {HasFrom: true, From: number(3)}}}},
			{Name: "lib.2"},
			{Name: "lib-3", Range: whole()},
		},
		Bars: []api.Need{{Name: "lib", Range: api.Range{Spans: []api.Span{{HasTo: true, To: number(1)}}}}, {Name: "old", Range: whole()}, {Name: "older", Range: whole()}},
		Components: []api.Component{
			{Name: "core", Title: "", Always: true, When: always, Items: []api.Item{program("bin/app", "\x00app"), textual("etc/app.conf", "a\n"), setting("app/size", `"2"\`)},
				Steps: []api.Step{{Kind: api.StepSet, Name: "app/last", Value: `\"`}, {Kind: api.StepUnset, Name: "app/first"}, {Kind: api.StepWrite, Name: "etc/stamp", Value: "x y"}}},
			{Name: "server", Title: "The server", Default: true, When: fact("os", "unix"), Needs: []string{"words", "core"},
				Items: []api.Item{service("appd", "lib/words"), data("var/data", ""), setting("server", ""), service("appe", "bin/app")},
				Steps: []api.Step{{Kind: api.StepStart, Name: "appd"}, {Kind: api.StepErase, Name: "etc/stamp"}, {Kind: api.StepStop, Name: "appe"}}},
			{Name: "words", Title: "Words", Default: true, Always: true, When: api.Cond{Kind: api.CondAny, Args: []api.Cond{always, {Kind: api.CondHas, Name: "Words/on"}}},
				Items: []api.Item{shared("lib/words", "\x00app")}},
			{Name: "plain", Title: "Plain", When: always},
		},
		Moves: []api.Move{
			{From: api.Range{Spans: []api.Span{{HasFrom: true, From: number(0), HasTo: true, To: number(1)}}}, To: number(1), Rules: []string{"rename a b", " "}},
			{To: number(1)},
		},
	}
}

const someText = `package some 1.2.3-a.1 "A \"title\" \\"
need lib >=1.0.0 <2.0.0, >=3.0.0
need lib.2 none
need lib-3 *
bar lib <1.0.0
bar old *
bar older *
component core "" always
file program bin/app 2ea94b7efb5b56aa 4 runs
file text etc/app.conf 089bdc07b544e7b2 2
set app/size "\"2\"\\"
step 1 app/last "\\\""
step 2 app/first ""
step 3 etc/stamp "x y"
component server "The server" default
when fact os = "unix"
needs words
needs core
service appd lib/words auto
file data var/data cbf29ce484222325 0
set server ""
service appe bin/app auto
step 5 appd ""
step 4 etc/stamp ""
step 6 appe ""
component words "Words" default always
when (always or has Words/on)
file shared lib/words 2ea94b7efb5b56aa 4
component plain "Plain"
move >=0.0.0 <1.0.0 1.0.0
rule rename a b
rule  ` + `
move none 1.0.0
`

// wrong is a package with nothing but a bad name, which is the first of all errors.
func wrong() api.Package { return api.Package{Name: "?"} }

// small is a package with just these components.
func small(l ...api.Component) api.Package { return api.Package{Name: "small", Components: l} }

// part is a component with nothing but needs.
func part(name string, needs ...string) api.Component {
	return api.Component{Name: name, When: always, Needs: needs}
}

// having is a component with nothing but items.
func having(name string, items ...api.Item) api.Component {
	return api.Component{Name: name, When: always, Items: items}
}

func number(major int) api.Version { return api.Version{Major: major} }

func whole() api.Range { return api.Range{Spans: []api.Span{{}}} }

func fact(name, value string) api.Cond {
	return api.Cond{Kind: api.CondFact, Name: name, Value: value}
}

func pair(key, value string) api.Setting { return api.Setting{Key: key, Value: value} }

// Items of all kinds, without looking at what they are of.
func program(path, data string) api.Item {
	return api.Item{Kind: api.ItemProgram, File: api.File{Path: path, Data: data, Runs: true}}
}

func shared(path, data string) api.Item {
	return api.Item{Kind: api.ItemShared, File: api.File{Path: path, Data: data}}
}

func textual(path, data string) api.Item {
	return api.Item{Kind: api.ItemText, File: api.File{Path: path, Data: data}}
}

func data(path, data string) api.Item {
	return api.Item{Kind: api.ItemData, File: api.File{Path: path, Data: data}}
}

func setting(key, value string) api.Item {
	return api.Item{Kind: api.ItemSetting, Setting: pair(key, value)}
}

func service(name, path string) api.Item {
	return api.Item{Kind: api.ItemService, Service: api.Service{Name: name, Path: path, Auto: true}}
}

func long(n int) string { return strings.Repeat("a", n) }

// numbered are names in order.
func numbered(i int) string { return "n" + strconv.Itoa(1000000+i) }

// same compares what can hold slices: nil and empty ones are the same.
func same(a, b any) bool { return sameValue(reflect.ValueOf(a), reflect.ValueOf(b)) }

func sameValue(a, b reflect.Value) bool {
	switch a.Kind() {
	case reflect.Slice:
		if a.Len() != b.Len() {
			return false
		}
		for i := range a.Len() {
			if !sameValue(a.Index(i), b.Index(i)) {
				return false
			}
		}
		return true
	case reflect.Struct:
		for i := range a.NumField() {
			if !sameValue(a.Field(i), b.Field(i)) {
				return false
			}
		}
		return true
	}
	return a.Equal(b)
}

// isNone reports whether there is nothing in a package.
func isNone(p api.Package) bool { return same(p, api.Package{}) }

// bare is a package without the Data of its files, as its text tells it.
func bare(p api.Package) api.Package {
	p.Components = append([]api.Component{}, p.Components...)
	for i := range p.Components {
		c := &p.Components[i]
		c.Items = append([]api.Item{}, c.Items...)
		for j := range c.Items {
			c.Items[j].File.Data = ""
		}
	}
	return p
}

// check sees what Check says of a package.
func check(t *testing.T, what any, p api.Package, want api.Errno) {
	t.Helper()
	if e := pack.Check(p); e != want {
		t.Errorf("Check %v: %d, not %d", what, e, want)
	}
}

// guess makes a package by chance: it is mostly right, and has much in common with others.
func guess(rnd *rand.Rand) api.Package {
	p := api.Package{Name: guessOne(rnd, "a b c"), Version: number(rnd.IntN(3)), Title: guessOne(rnd, `x "y" \`)}
	for _, name := range []string{"d", "e"}[:rnd.IntN(3)] {
		p.Needs = append(p.Needs, api.Need{Name: name, Range: whole()})
	}
	names := []string{"a", "b", "c", "d", "e"}
	rnd.Shuffle(len(names), func(i, j int) { names[i], names[j] = names[j], names[i] })
	for i, name := range names[:1+rnd.IntN(len(names))] {
		c := api.Component{Name: name, Title: guessOne(rnd, `x "y" \`), Default: rnd.IntN(3) == 0, Always: rnd.IntN(5) == 0, When: always}
		if rnd.IntN(3) == 0 {
			c.When = fact("os", guessOne(rnd, "x y"))
		}
		for _, other := range names {
			if rnd.IntN(40) == 0 || rnd.IntN(3) == 0 && strings.Contains(strings.Join(names[:i], ""), other) {
				c.Needs = append(c.Needs, other)
			}
		}
		for range rnd.IntN(4) {
			c.Items = append(c.Items, guessItem(rnd, name))
		}
		for range rnd.IntN(3) {
			c.Steps = append(c.Steps, api.Step{Kind: api.StepSet, Name: name, Value: strconv.Itoa(rnd.IntN(10))})
		}
		p.Components = append(p.Components, c)
	}
	rnd.Shuffle(len(p.Components), func(i, j int) { p.Components[i], p.Components[j] = p.Components[j], p.Components[i] })
	return p
}

func guessItem(rnd *rand.Rand, name string) api.Item {
	path := guessOne(rnd, "p q "+name+" "+name+"/x p/x q/y/z A B C D")
	text := guessOne(rnd, "one two three")
	switch rnd.IntN(8) {
	case 0:
		return program(path, text)
	case 1, 2:
		return shared(path, text)
	case 3:
		return textual(path, text)
	case 4:
		return data(path, text)
	case 5:
		return service(guessOne(rnd, "a b c d e f g"), path)
	}
	return setting(path, text)
}

// guessOne is one of some words.
func guessOne(rnd *rand.Rand, words string) string {
	l := strings.Fields(words)
	return l[rnd.IntN(len(l))]
}

// guessGood is guess until it is right.
func guessGood(rnd *rand.Rand) api.Package {
	for {
		if p := guess(rnd); pack.Check(p) == api.OK {
			return p
		}
	}
}
