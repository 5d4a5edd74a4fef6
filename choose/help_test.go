package choose_test

import (
	"reflect"
	"slices"
	"strings"

	"outfitter/api"
	"outfitter/pack"
	"outfitter/ver"
)

// product reads a package: its name and version, and lines as pack.Parse reads them. Without components it has the component
// core, which is always chosen.
func product(head string, lines ...string) api.Package {
	isPart := func(line string) bool { return strings.HasPrefix(line, "component ") }
	if !slices.ContainsFunc(lines, isPart) {
		lines = append(lines, `component core "" always`)
	}
	p, _, e := pack.Parse("package " + head + ` ""` + "\n" + strings.Join(lines, "\n") + "\n")
	if e != api.OK {
		panic(head + " is wrong")
	}
	return p
}

// program is a line for a file.
func program(path string) string { return "file program " + path + " 0000000000000000 0" }

// component is a line.
func component(name string, how ...string) string {
	return strings.Join(append([]string{"component", name, `""`}, how...), " ")
}

func version(text string) api.Version {
	v, e := ver.Parse(text)
	if e != api.OK {
		panic(text + " is no version")
	}
	return v
}

// number is a version that has just a major number.
func number(major int) api.Version { return api.Version{Major: major} }

func spans(text string) api.Range {
	r, e := ver.ParseRange(text)
	if e != api.OK {
		panic(text + " is no range")
	}
	return r
}

// wants reads names, ranges without blanks, and components: "app ^1.0.0 core words, lib *".
func wants(text string) []api.Want {
	var l []api.Want
	for _, words := range listed(text) {
		l = append(l, api.Want{Name: words[0], Range: spans(words[1]), Components: words[2:]})
	}
	return l
}

// picks reads names, versions and components: "app 1.0.0 core words, lib 2.0.0 core".
func picks(text string) []api.Pick {
	var l []api.Pick
	for _, words := range listed(text) {
		l = append(l, api.Pick{Name: words[0], Version: version(words[1]), Components: words[2:]})
	}
	return l
}

// installs is as picks, with a ! ahead of what is wanted.
func installs(text string) []api.Install {
	var l []api.Install
	for _, p := range picks(text) {
		name, isWanted := strings.CutPrefix(p.Name, "!")
		l = append(l, api.Install{Name: name, Version: p.Version, Components: p.Components, Wanted: isWanted})
	}
	return l
}

// pairs reads facts or settings: "os=unix size=2".
func pairs(text string) []api.Setting {
	var l []api.Setting
	for _, word := range strings.Fields(text) {
		key, value, _ := strings.Cut(word, "=")
		l = append(l, api.Setting{Key: key, Value: value})
	}
	return l
}

// listed has the words of what stands between commas.
func listed(text string) [][]string {
	var l [][]string
	for _, one := range strings.Split(text, ",") {
		if words := strings.Fields(one); len(words) > 0 {
			l = append(l, words)
		}
	}
	return l
}

// show writes picks as they are read.
func show(l []api.Pick) string {
	var texts []string
	for _, p := range l {
		texts = append(texts, strings.Join(append([]string{p.Name, written(p.Version)}, p.Components...), " "))
	}
	return strings.Join(texts, ", ")
}

func written(v api.Version) string {
	text, e := ver.Print(v)
	if e != api.OK {
		return "?"
	}
	return text
}

// showTurns writes turns: "-old 1.0.0 -core, ^app 1.0.0 2.0.0 +words", with From and To as far as they are not zero.
func showTurns(l []api.Turn) string {
	var texts []string
	for _, t := range l {
		words := []string{"?-+^v="[t.Kind:][:1] + t.Name}
		for _, v := range []api.Version{t.From, t.To} {
			if v != (api.Version{}) {
				words = append(words, written(v))
			}
		}
		for _, name := range t.Added {
			words = append(words, "+"+name)
		}
		for _, name := range t.Dropped {
			words = append(words, "-"+name)
		}
		texts = append(texts, strings.Join(words, " "))
	}
	return strings.Join(texts, ", ")
}

// shop is a world in which app needs lib, some versions of lib are in the way of others, and tool has parts to choose.
func shop() api.World {
	return api.World{
		Packages: []api.Package{
			product("app 1.0.0", "need lib <2.0.0", component("core", "always"), program("bin/app")),
			product("app 2.0.0", "need lib >=2.0.0", component("core", "always"), program("bin/app")),
			product("lib 1.0.0", component("core", "always"), program("lib/one")),
			product("lib 2.0.0", component("core", "always"), program("lib/two")),
			product("lib 3.0.0-a", component("core", "always"), program("lib/two")),
			product("lib 3.0.0", component("core", "always"), program("lib/two")),
			product("old 1.0.0", "need lib <2.0.0", "bar tool >=2.0.0"),
			product("tool 1.0.0", component("core", "always"), component("words", "default"), "needs core", component("server"), `when fact os = "unix"`, "needs words", program("bin/toold")),
			product("tool 2.0.0", component("server"), component("words", "default"), component("core", "always"), program("bin/app")),
		},
		Facts: pairs("os=unix"), Settings: pairs("size=2"),
	}
}

// same compares what can hold slices: nil and empty ones are the same.
func same(a, b any) bool { return sameValue(reflect.ValueOf(a), reflect.ValueOf(b)) }

func sameValue(a, b reflect.Value) bool {
	switch a.Kind() {
	case reflect.Slice:
		if a.Len() != b.Len() {
			return false
		}
		for i := range a.Len() {
			if !sameValue(a.Index(i), b.Index(i)) {
				return false
			}
		}
		return true
	case reflect.Struct:
		for i := range a.NumField() {
			if !sameValue(a.Field(i), b.Field(i)) {
				return false
			}
		}
		return true
	}
	return a.Equal(b)
}
