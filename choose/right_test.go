package choose_test

import (
	"math/rand/v2"
	"slices"
	"testing"

	"outfitter/api"
	"outfitter/choose"
)

// right sees what Right says, and that the words of P71 say so, too.
func right(t *testing.T, w api.World, l []api.Want, text string, want bool) {
	t.Helper()
	got, e := choose.Right(w, l, picks(text))
	if got != want || e != api.OK || isRight(w, l, picks(text)) != want {
		t.Errorf("Right(%v, %s): %v, %d", l, text, got, e)
	}
}

func TestP71Wants(t *testing.T) {
	for _, c := range []struct {
		wants, picks string
		want         bool
	}{
		{"", "", true},
		{"", "lib 1.0.0 core", false},
		{"lib *", "", false},
		{"lib *", "lib 1.0.0 core", true},
		{"lib *", "lib 3.0.0-a core", true},
		{"lib *", "lib 3.0.0 core", true},
		{"lib *", "lib 4.0.0 core", false},
		{"lib *", "lib 3.0.0-b core", false},
		{"lib *", "none 1.0.0", false},
		{"lib *", "tool 1.0.0 core words", false},
		{"none *", "", false},
		{"none *", "lib 1.0.0 core", false},
		{"lib *, none *", "lib 1.0.0 core", false},
		// Versions are in the ranges of all wants.
		{"lib <2.0.0", "lib 1.0.0 core", true},
		{"lib <2.0.0", "lib 2.0.0 core", false},
		{"lib >=2.0.0", "lib 3.0.0-a core", false},
		{"lib >=3.0.0-a", "lib 3.0.0-a core", true},
		{"lib none", "lib 1.0.0 core", false},
		{"lib >=2.0.0, lib <3.0.0", "lib 2.0.0 core", true},
		{"lib >=2.0.0, lib <3.0.0", "lib 3.0.0 core", false},
		{"lib <3.0.0, lib >=2.0.0", "lib 1.0.0 core", false},
		// All wants have a pick.
		{"lib *, tool *", "lib 1.0.0 core, tool 1.0.0 core words", true},
		{"tool *, lib *", "lib 1.0.0 core, tool 1.0.0 core words", true},
		{"lib *, tool *", "lib 1.0.0 core", false},
		{"lib *, tool *", "tool 1.0.0 core words", false},
		// Picks are in order.
		{"lib *, tool *", "tool 1.0.0 core words, lib 1.0.0 core", false},
		{"lib *", "lib 1.0.0 core, lib 1.0.0 core", false},
		{"lib *", "lib 1.0.0 core, lib 2.0.0 core", false},
	} {
		right(t, shop(), wants(c.wants), c.picks, c.want)
	}
	right(t, api.World{}, nil, "", true)
	right(t, api.World{}, wants("lib *"), "", false)
}

func TestP71Others(t *testing.T) {
	for _, c := range []struct {
		wants, picks string
		want         bool
	}{
		// Needs.
		{"app *", "app 1.0.0 core, lib 1.0.0 core", true},
		{"app *", "app 2.0.0 core, lib 2.0.0 core", true},
		{"app *", "app 2.0.0 core, lib 3.0.0 core", true},
		{"app *", "app 1.0.0 core", false},
		{"app *", "app 1.0.0 core, lib 2.0.0 core", false},
		{"app *", "app 2.0.0 core, lib 1.0.0 core", false},
		{"app *", "app 2.0.0 core, lib 3.0.0-a core", false},
		{"app *, lib *", "app 2.0.0 core, lib 3.0.0-a core", false},
		{"app *, lib *", "app 2.0.0 core", false},
		// Bars.
		{"old *, tool *", "lib 1.0.0 core, old 1.0.0 core, tool 1.0.0 core words", true},
		{"old *, tool *", "lib 1.0.0 core, old 1.0.0 core, tool 2.0.0 words core", false},
		{"tool *", "tool 2.0.0 words core", true},
		// What nothing wanted needs.
		{"app *", "app 1.0.0 core, lib 1.0.0 core, tool 1.0.0 core words", false},
		{"app *", "app 1.0.0 core, lib 1.0.0 core, old 1.0.0 core", false},
		{"lib *", "app 1.0.0 core, lib 1.0.0 core", false},
		{"app *, tool *", "app 1.0.0 core, lib 1.0.0 core, tool 1.0.0 core words", true},
		// Clashes.
		{"app *, tool *", "app 2.0.0 core, lib 2.0.0 core, tool 1.0.0 core words", true},
		{"app *, tool *", "app 2.0.0 core, lib 2.0.0 core, tool 2.0.0 words core", false},
		{"app *, tool *", "app 1.0.0 core, lib 1.0.0 core, tool 2.0.0 words core", false},
	} {
		right(t, shop(), wants(c.wants), c.picks, c.want)
	}
}

// TestP71Circles has packages that need each other, and what they need is not in the world.
func TestP71Circles(t *testing.T) {
	w := api.World{Packages: []api.Package{
		product("a 1.0.0", "need b *"), product("a 2.0.0", "need none *"), product("b 1.0.0", "need c *"), product("c 1.0.0", "need a *"), product("d 1.0.0", "bar none *"), product("e 1.0.0", "need a none"),
	}}
	for _, c := range []struct {
		wants, picks string
		want         bool
	}{
		{"a *", "a 1.0.0 core, b 1.0.0 core, c 1.0.0 core", true},
		{"c *", "a 1.0.0 core, b 1.0.0 core, c 1.0.0 core", true},
		{"d *", "a 1.0.0 core, b 1.0.0 core, c 1.0.0 core, d 1.0.0 core", false},
		{"d *, b *", "a 1.0.0 core, b 1.0.0 core, c 1.0.0 core, d 1.0.0 core", true},
		{"d *", "d 1.0.0 core", true},
		{"a *", "a 1.0.0 core, b 1.0.0 core", false},
		{"a *", "a 2.0.0 core", false},
		{"a *, b *", "a 2.0.0 core, b 1.0.0 core, c 1.0.0 core", false},
		{"e *", "e 1.0.0 core", false},
		{"e *", "a 1.0.0 core, b 1.0.0 core, c 1.0.0 core, e 1.0.0 core", false},
	} {
		right(t, w, wants(c.wants), c.picks, c.want)
	}
}

func TestP71Components(t *testing.T) {
	for _, c := range []struct {
		facts, installed, wants, picks string
		want                           bool
	}{
		{"os=unix", "", "tool *", "tool 1.0.0 core words", true},
		{"os=unix", "", "tool *", "tool 1.0.0 words core", false},
		{"os=unix", "", "tool *", "tool 1.0.0 core", false},
		{"os=unix", "", "tool *", "tool 1.0.0", false},
		{"os=unix", "", "tool *", "tool 1.0.0 core words words", false},
		{"os=unix", "", "tool *", "tool 1.0.0 core words none", false},
		{"os=unix", "", "tool *", "tool 1.0.0 core words server", false},
		// What is wanted, and what this needs.
		{"os=unix", "", "tool * words", "tool 1.0.0 core words", true},
		{"os=unix", "", "tool * server", "tool 1.0.0 core words server", true},
		{"os=unix", "", "tool * server", "tool 1.0.0 core words", false},
		{"os=unix", "", "tool * server core", "tool 1.0.0 core words server", true},
		{"os=unix", "", "tool *, tool * server", "tool 1.0.0 core words server", true},
		{"os=unix", "", "tool * server, tool * server words", "tool 1.0.0 core words server", true},
		{"os=unix", "", "tool * server, tool * words", "tool 1.0.0 core words", false},
		{"os=unix", "", "tool * none", "tool 1.0.0 core words", false},
		{"os=unix", "", "tool *, tool * none", "tool 1.0.0 core words", false},
		{"os=unix", "", "tool *, lib * core", "lib 1.0.0 core, tool 1.0.0 core words", true},
		{"os=unix", "", "tool *, lib * server", "lib 1.0.0 core, tool 1.0.0 core words", false},
		// What is allowed.
		{"os=x", "", "tool * server", "tool 1.0.0 core words server", false},
		{"os=x", "", "tool * server", "tool 1.0.0 core words", false},
		{"os=x", "", "tool * server", "tool 2.0.0 server words core", true},
		{"os=x", "", "tool *", "tool 1.0.0 core words", true},
		// What is installed, in this version or another one, in the place of the default ones.
		{"os=unix", "tool 1.0.0 core", "tool *", "tool 1.0.0 core", true},
		{"os=unix", "tool 1.0.0 core", "tool *", "tool 1.0.0 core words", false},
		{"os=unix", "tool 1.0.0", "tool *", "tool 1.0.0 core", true},
		{"os=unix", "tool 1.0.0 core", "tool *", "tool 2.0.0 core", true},
		{"os=unix", "tool 1.0.0 core", "tool *", "tool 2.0.0 words core", false},
		{"os=unix", "tool 1.0.0 core", "tool * words", "tool 2.0.0 words core", true},
		{"os=unix", "tool 2.0.0 server core", "tool *", "tool 1.0.0 core words server", true},
		{"os=unix", "tool 2.0.0 server core", "tool *", "tool 2.0.0 server core", true},
		{"os=x", "tool 2.0.0 server core", "tool *", "tool 1.0.0 core", true},
		{"os=x", "tool 2.0.0 server core", "tool *", "tool 1.0.0 core words", false},
		{"os=x", "tool 1.0.0 core words server", "tool *", "tool 1.0.0 core words", true},
		{"os=x", "tool 1.0.0 core words server", "tool *", "tool 1.0.0 core words server", false},
		{"os=x", "tool 1.0.0 core words server", "tool *", "tool 2.0.0 server words core", true},
		{"os=unix", "lib 1.0.0 core", "tool *", "tool 1.0.0 core words", true},
	} {
		w := shop()
		w.Facts = pairs(c.facts)
		w.Installed = installs(c.installed)
		right(t, w, wants(c.wants), c.picks, c.want)
	}
}

// TestP71Denied has components that are always there, or are needed, and not allowed, and ones that the new version has not.
func TestP71Denied(t *testing.T) {
	w := api.World{Packages: []api.Package{
		product("a 1.0.0", component("core", "always"), "when has size", component("words")),
		product("a 2.0.0", component("core"), component("words", "default"), "needs core", component("more"), "when has size"),
		product("a 3.0.0", component("more", "default"), "needs core", component("core"), "when has size"),
	}}
	right(t, w, wants("a *"), "a 1.0.0 core", false)
	right(t, w, wants("a *"), "a 1.0.0", false)
	right(t, w, wants("a *"), "a 2.0.0 core words", true)
	right(t, w, wants("a * more"), "a 2.0.0 core words more", false)
	right(t, w, wants("a *"), "a 3.0.0", true)
	right(t, w, wants("a *"), "a 3.0.0 more core", false)
	right(t, w, wants("a * core"), "a 3.0.0 core", false)
	w.Settings = pairs("size=2")
	right(t, w, wants("a *"), "a 1.0.0 core", true)
	right(t, w, wants("a * more"), "a 2.0.0 core words more", true)
	right(t, w, wants("a *"), "a 3.0.0 more core", true)
	w.Installed = installs("a 1.0.0 words")
	right(t, w, wants("a *"), "a 1.0.0 core words", true)
	right(t, w, wants("a *"), "a 2.0.0 core words", true)
	right(t, w, wants("a *"), "a 3.0.0", true)
	w.Installed = installs("a 2.0.0 more")
	right(t, w, wants("a *"), "a 1.0.0 core", true)
	right(t, w, wants("a *"), "a 3.0.0 more core", true)
	w.Settings = nil
	right(t, w, wants("a *"), "a 2.0.0", true)
	right(t, w, wants("a *"), "a 3.0.0", true)
}

// TestP71Clashes has packages whose components are in each other's way, or share files.
func TestP71Clashes(t *testing.T) {
	shared := func(path, how string) string { return "file shared " + path + " 0000000000000000 0" + how }
	w := api.World{Packages: []api.Package{
		product("a 1.0.0", component("core", "always"), shared("lib/x", ""), component("words"), `set size "2"`, component("more"), shared("lib/y", ""), program("lib/z")),
		product("b 1.0.0", component("core", "always"), shared("lib/x", ""), component("words"), `set size "2"`, component("more"), shared("lib/y", " runs")),
		product("c 1.0.0", component("core", "always"), shared("lib/z", ""), "service size lib/z"),
		product("d 1.0.0", component("core", "always"), program("bin/d"), "service size bin/d"),
		product("e 1.0.0", component("core", "always"), `set x ""`, `set y ""`),
		product("f 1.0.0", component("one"), `set x ""`, component("two"), `set y ""`, component("three")),
	}}
	right(t, w, wants("a *, b *"), "a 1.0.0 core, b 1.0.0 core", true)
	right(t, w, wants("a * words, b *"), "a 1.0.0 core words, b 1.0.0 core", true)
	right(t, w, wants("a *, b * words"), "a 1.0.0 core, b 1.0.0 core words", true)
	right(t, w, wants("a * words, b * words"), "a 1.0.0 core words, b 1.0.0 core words", false)
	right(t, w, wants("a * words, b * more"), "a 1.0.0 core words, b 1.0.0 core more", true)
	right(t, w, wants("a * more, b * more"), "a 1.0.0 core more, b 1.0.0 core more", false)
	right(t, w, wants("a *, c *"), "a 1.0.0 core, c 1.0.0 core", true)
	right(t, w, wants("a * more, c *"), "a 1.0.0 core more, c 1.0.0 core", false)
	right(t, w, wants("a * words, c *"), "a 1.0.0 core words, c 1.0.0 core", true)
	right(t, w, wants("c *, d *"), "c 1.0.0 core, d 1.0.0 core", false)
	right(t, w, wants("e *, f * one"), "e 1.0.0 core, f 1.0.0 one", false)
	right(t, w, wants("e *, f * two"), "e 1.0.0 core, f 1.0.0 two", false)
	right(t, w, wants("e *, f * three"), "e 1.0.0 core, f 1.0.0 three", true)
	right(t, w, wants("a * words, b *, d *"), "a 1.0.0 core words, b 1.0.0 core, d 1.0.0 core", true)
}

// wantFaults are wrong wants, with what is wrong in them.
func wantFaults() []struct {
	l    []api.Want
	want api.Errno
} {
	long := names(api.MaxComponents + 1)
	wrong := api.Range{Spans: []api.Span{{HasFrom: true}, {HasFrom: true}}}
	good := wants("lib *")[0]
	return []struct {
		l    []api.Want
		want api.Errno
	}{
		{slices.Repeat([]api.Want{good}, 9), api.ErrLarge},
		{make([]api.Want, 9), api.ErrLarge},
		{[]api.Want{{}}, api.ErrName},
		{[]api.Want{{Name: "Lib"}}, api.ErrName},
		{[]api.Want{{Name: "Lib", Range: wrong, Components: long}}, api.ErrName},
		{[]api.Want{{Name: "lib", Range: wrong, Components: long}}, api.ErrOrder},
		{[]api.Want{{Name: "lib", Range: api.Range{Spans: make([]api.Span, 11)}}}, api.ErrLarge},
		{[]api.Want{{Name: "lib", Components: long}}, api.ErrLarge},
		{[]api.Want{{Name: "lib", Components: make([]string, 31)}}, api.ErrLarge},
		{[]api.Want{{Name: "lib", Components: make([]string, 30)}}, api.ErrTwice},
		{[]api.Want{{Name: "lib", Components: []string{"core", "?", "core"}}}, api.ErrTwice},
		{[]api.Want{good, {Name: "lib", Range: wrong}, {}}, api.ErrOrder},
		{[]api.Want{good, {}, {Name: "lib", Range: wrong}}, api.ErrName},
		{[]api.Want{{Name: "lib", Components: make([]string, 2)}, {}}, api.ErrTwice},
	}
}

func TestP71Errors(t *testing.T) {
	for i, f := range wantFaults() {
		if is, e := choose.Right(shop(), f.l, nil); is || e != f.want {
			t.Errorf("Right %d: %v, %d", i, is, e)
		}
	}
	// What is right, though it cannot be had: names that are not there, and components that can be no names.
	l := append(slices.Repeat(wants("lib *"), 7), api.Want{Name: "none", Range: api.Range{}, Components: append(names(29), "\n")})
	right(t, shop(), l, "lib 1.0.0 core", false)
	for _, p := range []api.Pick{{}, {Name: "lib"}, {Name: "\n", Version: api.Version{Major: -1, Early: "?"}}} {
		if is, e := choose.Right(shop(), wants("lib *"), []api.Pick{p}); is || e != api.OK {
			t.Error(p, is, e)
		}
	}
}

// TestP71Chance holds picks made by chance against the words of P71.
func TestP71Chance(t *testing.T) {
	rnd := rand.New(rand.NewPCG(3, 4))
	count := map[bool]int{}
	for range 1500 {
		w := install(rnd, guessWorld(rnd))
		l := guessWants(rnd)
		lists := [][]api.Pick{nil}
		for _, all := range allRight(w, l) {
			lists = append(lists, all, change(rnd, w, all), change(rnd, w, all))
		}
		for _, p := range w.Packages {
			parts, _ := partsOf(w, l, p)
			lists = append(lists, []api.Pick{{Name: p.Name, Version: p.Version, Components: parts}})
		}
		for _, picks := range lists {
			want := isRight(w, l, picks)
			if got, e := choose.Right(w, l, picks); got != want || e != api.OK {
				t.Fatalf("Right(%v, %v, %v): %v, %d", w, l, picks, got, e)
			}
			count[want]++
		}
	}
	if count[true] < 300 || count[false] < 300 {
		t.Error("too little is tried:", count)
	}
}

// change makes other picks of some.
func change(rnd *rand.Rand, w api.World, l []api.Pick) []api.Pick {
	l = slices.Clone(l)
	i := rnd.IntN(len(l))
	switch rnd.IntN(5) {
	case 0:
		return slices.Delete(l, i, i+1)
	case 1:
		p := w.Packages[rnd.IntN(len(w.Packages))]
		return append(l, api.Pick{Name: p.Name, Version: p.Version, Components: []string{"core"}})
	case 2:
		l[i].Version = w.Packages[rnd.IntN(len(w.Packages))].Version
	case 3:
		l[i].Components = slices.Concat(l[i].Components, []string{guess(rnd, "core words server")})
	default:
		l[i].Components = l[i].Components[:len(l[i].Components)/2]
	}
	return l
}
