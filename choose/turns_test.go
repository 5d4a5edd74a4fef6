package choose_test

import (
	"math/rand/v2"
	"slices"
	"strings"
	"testing"

	"outfitter/api"
	"outfitter/choose"
)

// chain has packages that need each other by others, in a circle too.
func chain() api.World {
	return api.World{Packages: []api.Package{
		product("a 1.0.0", "need d *", "need b *"),
		product("a 2.0.0", "need b none", "need d *"),
		product("b 1.0.0", "need c *"),
		product("c 1.0.0", "need e *", "need a *"),
		product("c 2.0.0"),
		product("d 1.0.0"),
		product("e 1.0.0", "need none *"),
		product("f 1.0.0", "need g *"),
		product("g 1.0.0", "need f *", "bar a *"),
	}}
}

func TestP74Order(t *testing.T) {
	for picked, want := range map[string]string{
		"":                          "",
		"a 1.0.0":                   "a",
		"d 1.0.0, a 1.0.0":          "d a",
		"a 1.0.0, d 1.0.0":          "d a",
		"a 1.0.0, b 1.0.0":          "b a",
		"a 1.0.0, b 1.0.0, d 1.0.0": "d b a",
		"a 2.0.0, b 1.0.0, d 1.0.0": "b d a",
		"a 1.0.0, b 1.0.0, c 1.0.0": "c b a",
		"b 1.0.0, c 1.0.0":          "c b",
		// In the circle a waits for d and b, b for c, c for e, but not for a, that is gone through.
		"e 1.0.0, d 1.0.0, c 1.0.0, b 1.0.0, a 1.0.0": "d e c b a",
		"a 1.0.0, b 1.0.0, c 2.0.0, d 1.0.0, e 1.0.0": "d c b a e",
		"a 2.0.0, b 1.0.0, c 1.0.0, d 1.0.0":          "c b d a",
		"c 1.0.0, a 1.0.0":                            "a c",
		"f 1.0.0, g 1.0.0":                            "g f",
		"g 1.0.0, f 1.0.0":                            "g f",
		"g 1.0.0, a 1.0.0, f 1.0.0, d 1.0.0":          "d a g f",
		"e 1.0.0, d 1.0.0":                            "d e",
		// Components are not looked at.
		"d 1.0.0 none none, e 1.0.0 core": "d e",
	} {
		l, e := choose.Order(chain(), picks(picked))
		if !slices.Equal(l, strings.Fields(want)) || e != api.OK {
			t.Errorf("Order(%s): %v, %d, not %s", picked, l, e, want)
		}
	}
}

// pickErrors are errors of picks from chain.
func pickErrors() map[string]api.Errno {
	return map[string]api.Errno{
		"none 1.0.0": api.ErrNone, "a 3.0.0": api.ErrNone, "a 1.0.0-a": api.ErrNone, "a 1.0.0, b 2.0.0": api.ErrNone,
		"a 1.0.0, a 1.0.0": api.ErrTwice, "a 2.0.0, b 1.0.0, a 1.0.0": api.ErrTwice,
		// Each pick is looked at for both ahead of the next one.
		"a 1.0.0, a 2.0.0, none 1.0.0": api.ErrTwice, "a 1.0.0, none 1.0.0, a 1.0.0": api.ErrNone, "a 1.0.0, a 3.0.0": api.ErrNone, "none 1.0.0, none 1.0.0": api.ErrNone,
	}
}

func TestP74Errors(t *testing.T) {
	for picked, want := range pickErrors() {
		if l, e := choose.Order(chain(), picks(picked)); len(l) != 0 || e != want {
			t.Errorf("Order(%s): %v, %d", picked, l, e)
		}
	}
	if l, e := choose.Order(chain(), []api.Pick{{Name: "a", Version: api.Version{Major: -1}}}); len(l) != 0 || e != api.ErrNone {
		t.Error(l, e)
	}
}

func TestP75Changes(t *testing.T) {
	for _, c := range []struct{ installed, picked, want string }{
		{"", "", ""},
		{"", "lib 1.0.0 core", "+lib 1.0.0 +core"},
		{"", "lib 1.0.0", "+lib 1.0.0"},
		{"lib 1.0.0 core", "", "-lib 1.0.0 -core"},
		{"lib 1.0.0", "", "-lib 1.0.0"},
		{"lib 1.0.0 core", "lib 1.0.0 core", ""},
		{"lib 1.0.0", "lib 1.0.0", ""},
		{"!lib 1.0.0 core", "lib 1.0.0 core", ""},
		{"lib 1.0.0 core", "lib 2.0.0 core", "^lib 1.0.0 2.0.0"},
		{"lib 2.0.0 core", "lib 1.0.0 core", "vlib 2.0.0 1.0.0"},
		{"lib 3.0.0-a core", "lib 3.0.0 core", "^lib 3.0.0-a 3.0.0"},
		{"lib 3.0.0 core", "lib 3.0.0-a core", "vlib 3.0.0 3.0.0-a"},
		{"lib 2.0.0", "lib 3.0.0-a core", "^lib 2.0.0 3.0.0-a +core"},
		// Components, of the same version or of other ones.
		{"lib 1.0.0 core", "lib 1.0.0", "=lib -core"},
		{"lib 1.0.0", "lib 1.0.0 core", "=lib +core"},
		{"tool 1.0.0 core words", "tool 1.0.0 core server", "=tool +server -words"},
		{"tool 1.0.0 core", "tool 1.0.0 core words server", "=tool +words +server"},
		{"tool 1.0.0 core words server", "tool 1.0.0", "=tool -core -words -server"},
		{"tool 1.0.0 core words", "tool 2.0.0 words core", "^tool 1.0.0 2.0.0"},
		{"tool 1.0.0 core", "tool 2.0.0 server words core", "^tool 1.0.0 2.0.0 +server +words"},
		{"tool 1.0.0 core words server", "tool 2.0.0 core", "^tool 1.0.0 2.0.0 -words -server"},
		{"tool 2.0.0 server words core", "tool 1.0.0 core", "vtool 2.0.0 1.0.0 -server -words"},
		{"tool 2.0.0 core", "tool 1.0.0 words server", "vtool 2.0.0 1.0.0 +words +server -core"},
		{"", "tool 2.0.0 server core", "+tool 2.0.0 +server +core"},
		{"tool 2.0.0 server words", "", "-tool 2.0.0 -server -words"},
		// What goes comes first, in the reverse of the order in which it came; then what is picked, each behind what it needs.
		{"app 1.0.0 core, lib 1.0.0 core, old 1.0.0", "", "-old 1.0.0, -app 1.0.0 -core, -lib 1.0.0 -core"},
		{"app 1.0.0, lib 1.0.0, old 1.0.0", "app 1.0.0, lib 1.0.0", "-old 1.0.0"},
		{"app 1.0.0, lib 1.0.0, old 1.0.0", "lib 1.0.0", "-old 1.0.0, -app 1.0.0"},
		{"app 1.0.0, lib 1.0.0, old 1.0.0", "app 2.0.0, lib 2.0.0, tool 1.0.0", "-old 1.0.0, ^lib 1.0.0 2.0.0, ^app 1.0.0 2.0.0, +tool 1.0.0"},
		{"app 1.0.0, lib 1.0.0", "lib 2.0.0, app 2.0.0", "^lib 1.0.0 2.0.0, ^app 1.0.0 2.0.0"},
		{"app 2.0.0, lib 2.0.0", "app 1.0.0 core, tool 1.0.0, lib 1.0.0", "vlib 2.0.0 1.0.0, vapp 2.0.0 1.0.0 +core, +tool 1.0.0"},
		{"app 1.0.0, tool 1.0.0", "lib 1.0.0, old 1.0.0", "-tool 1.0.0, -app 1.0.0, +lib 1.0.0, +old 1.0.0"},
		{"app 1.0.0, lib 1.0.0", "app 1.0.0, lib 1.0.0 core, old 1.0.0", "=lib +core, +old 1.0.0"},
	} {
		w := shop()
		w.Installed = installs(c.installed)
		l, e := choose.Changes(w, picks(c.picked))
		if showTurns(l) != c.want || e != api.OK {
			t.Errorf("Changes(%s, %s): %s, %d, not %s", c.installed, c.picked, showTurns(l), e, c.want)
		}
	}
}

// TestP75Circle removes what needs each other in a circle: all that is installed has its order, also what stays.
func TestP75Circle(t *testing.T) {
	w := chain()
	w.Installed = installs("a 1.0.0 core, b 1.0.0 core, c 1.0.0, d 1.0.0, e 1.0.0")
	for picked, want := range map[string]string{
		"":                          "-a 1.0.0 -core, -b 1.0.0 -core, -c 1.0.0, -e 1.0.0, -d 1.0.0",
		"b 1.0.0 core":              "-a 1.0.0 -core, -c 1.0.0, -e 1.0.0, -d 1.0.0",
		"c 2.0.0, g 1.0.0, f 1.0.0": "-a 1.0.0 -core, -b 1.0.0 -core, -e 1.0.0, -d 1.0.0, ^c 1.0.0 2.0.0, +g 1.0.0, +f 1.0.0",
	} {
		if l, e := choose.Changes(w, picks(picked)); showTurns(l) != want || e != api.OK {
			t.Errorf("Changes(%s): %s, %d, not %s", picked, showTurns(l), e, want)
		}
	}
}

func TestP75Errors(t *testing.T) {
	for picked, want := range pickErrors() {
		if l, e := choose.Changes(chain(), picks(picked)); len(l) != 0 || e != want {
			t.Errorf("Changes(%s): %v, %d", picked, l, e)
		}
	}
	for picked, want := range map[string]api.Errno{
		"tool 1.0.0 none":                       api.ErrNone,
		"tool 1.0.0 core none":                  api.ErrNone,
		"tool 1.0.0 words core":                 api.ErrOrder,
		"tool 1.0.0 core core":                  api.ErrOrder,
		"tool 2.0.0 core words":                 api.ErrOrder,
		"tool 1.0.0 core words none core":       api.ErrNone,
		"tool 1.0.0 words core none":            api.ErrOrder,
		"tool 1.0.0 words core, lib 1.0.0 none": api.ErrOrder,
		"lib 1.0.0 none, tool 1.0.0 words core": api.ErrNone,
		"lib 1.0.0 words":                       api.ErrNone,
		"app 1.0.0 core, lib 1.0.0 core core":   api.ErrOrder,
		// All picks come ahead of all components.
		"lib 1.0.0 core core, none 1.0.0":                  api.ErrNone,
		"lib 1.0.0 none, tool 1.0.0, lib 1.0.0":            api.ErrTwice,
		"lib 1.0.0 core core, tool 1.0.0, tool 2.0.0 none": api.ErrTwice,
	} {
		if l, e := choose.Changes(shop(), picks(picked)); len(l) != 0 || e != want {
			t.Errorf("Changes(%s): %v, %d", picked, l, e)
		}
	}
}

func TestP76Needed(t *testing.T) {
	w := chain()
	w.Installed = installs("a 1.0.0, !b 1.0.0, c 1.0.0, d 1.0.0, e 1.0.0, g 1.0.0")
	for name, want := range map[string]string{"a": "b c", "b": "a c", "c": "a b", "d": "a b c", "e": "a b c", "g": ""} {
		if l, e := choose.Needed(w, name); !slices.Equal(l, strings.Fields(want)) || e != api.OK {
			t.Errorf("Needed(%s): %v, %d, not %s", name, l, e, want)
		}
	}
	// The installed versions count, and what is not installed leads nowhere; the ranges of needs do not matter.
	w.Installed = installs("a 2.0.0, b 1.0.0, c 2.0.0, e 1.0.0, f 1.0.0, g 1.0.0")
	for name, want := range map[string]string{"a": "", "b": "a", "c": "a b", "e": "", "f": "g", "g": "f"} {
		if l, e := choose.Needed(w, name); !slices.Equal(l, strings.Fields(want)) || e != api.OK {
			t.Errorf("Needed(%s): %v, %d, not %s", name, l, e, want)
		}
	}
	w.Installed = installs("a 1.0.0, c 1.0.0, e 1.0.0")
	if l, e := choose.Needed(w, "e"); !slices.Equal(l, []string{"c"}) || e != api.OK {
		t.Error(l, e)
	}
	for _, name := range []string{"d", "b", "none", "", "?"} {
		if l, e := choose.Needed(w, name); len(l) != 0 || e != api.ErrNone {
			t.Errorf("Needed(%s): %v, %d", name, l, e)
		}
	}
}

func TestP76Orphans(t *testing.T) {
	for installed, want := range map[string]string{
		"":                                       "",
		"a 1.0.0":                                "a",
		"!a 1.0.0":                               "",
		"!a 1.0.0, b 1.0.0, c 1.0.0, d 1.0.0":    "",
		"a 1.0.0, b 1.0.0, !c 1.0.0, d 1.0.0":    "",
		"a 1.0.0, b 1.0.0, !c 2.0.0, d 1.0.0":    "a b d",
		"a 1.0.0, !b 1.0.0, c 2.0.0, d 1.0.0":    "a d",
		"a 1.0.0, b 1.0.0, c 1.0.0, d 1.0.0":     "a b c d",
		"!a 1.0.0, c 1.0.0, d 1.0.0":             "c",
		"!a 2.0.0, b 1.0.0, f 1.0.0, g 1.0.0":    "f g",
		"!d 1.0.0, e 1.0.0, f 1.0.0, !g 1.0.0":   "e",
		"!a 1.0.0, !b 1.0.0, !c 1.0.0, !d 1.0.0": "",
	} {
		w := chain()
		w.Installed = installs(installed)
		if l, e := choose.Orphans(w); !slices.Equal(l, strings.Fields(want)) || e != api.OK {
			t.Errorf("Orphans(%s): %v, %d, not %s", installed, l, e, want)
		}
	}
}

func TestP76Wants(t *testing.T) {
	for installed, want := range map[string]string{
		"":                "",
		"app 1.0.0 core":  "",
		"!app 1.0.0 core": "app >=1.0.0",
		"!app 2.0.0, !lib 3.0.0-a core, old 1.0.0, !tool 1.0.0 words": "app >=2.0.0, lib >=3.0.0-a, tool >=1.0.0",
	} {
		w := shop()
		w.Installed = installs(installed)
		l, e := choose.Wants(w)
		if !same(l, wants(want)) || e != api.OK {
			t.Errorf("Wants(%s): %v, %d, not %s", installed, l, e, want)
		}
	}
}

// TestP261Chance has installed what is right for what is wanted: to choose with ModeKeep changes nothing.
func TestP261Chance(t *testing.T) {
	rnd := rand.New(rand.NewPCG(5, 6))
	tried, more := 0, 0
	for range 1500 {
		w := guessWorld(rnd)
		l := guessWants(rnd)
		all := allRight(w, l)
		if len(all) == 0 {
			continue
		}
		isWanted := map[string]bool{}
		for _, want := range l {
			isWanted[want.Name] = true
		}
		there := all[rnd.IntN(len(all))]
		for _, p := range there {
			w.Installed = append(w.Installed, api.Install{Name: p.Name, Version: p.Version, Components: p.Components, Wanted: isWanted[p.Name]})
		}
		own, e := choose.Wants(w)
		if is, f := choose.Right(w, own, there); !is || e != api.OK || f != api.OK {
			t.Fatal(w, own, there, is, e, f)
		}
		for _, some := range [][]api.Want{own, l} {
			got, e := choose.Choose(w, some, api.ModeKeep)
			turns, f := choose.Changes(w, got)
			if isRight(w, some, there) && (show(got) != show(there) || len(turns) != 0) || e != api.OK || f != api.OK {
				t.Fatal(w, some, there, got, turns, e, f)
			}
		}
		if orphans, e := choose.Orphans(w); len(orphans) != 0 || e != api.OK {
			t.Fatal(w, orphans, e)
		}
		tried++
		more += len(there) / 2
	}
	if tried < 300 || more < 100 {
		t.Error("too little is tried:", tried, more)
	}
}

// TestP75Chance does what Changes tells, turn by turn: what was installed becomes the picks, each one behind what it needs.
func TestP75Chance(t *testing.T) {
	rnd := rand.New(rand.NewPCG(7, 8))
	for range 1500 {
		w := install(rnd, guessWorld(rnd))
		var l []api.Pick
		for _, in := range install(rnd, api.World{Packages: w.Packages}).Installed {
			l = append(l, api.Pick{Name: in.Name, Version: in.Version, Components: in.Components})
		}
		rnd.Shuffle(len(l), func(i, j int) { l[i], l[j] = l[j], l[i] })
		turns, e := choose.Changes(w, l)
		order, f := choose.Order(w, l)
		if e != api.OK || f != api.OK {
			t.Fatal(w, l, e, f)
		}
		is := map[string]string{}
		for _, in := range w.Installed {
			is[in.Name] = written(in.Version)
			for _, name := range in.Components {
				is[in.Name+"/"+name] = "there"
			}
		}
		last := -1
		for _, turn := range turns {
			at := slices.Index(order, turn.Name)
			if at < 0 != (turn.Kind == api.TurnRemove) || at < last || at >= 0 && at == last {
				t.Fatal(w, l, turns)
			}
			last = at
			for _, name := range turn.Dropped {
				delete(is, turn.Name+"/"+name)
			}
			for _, name := range turn.Added {
				is[turn.Name+"/"+name] = "there"
			}
			switch {
			case turn.Kind == api.TurnRemove:
				delete(is, turn.Name)
			case turn.Kind != api.TurnParts:
				is[turn.Name] = written(turn.To)
			}
		}
		for _, p := range l {
			if is[p.Name] != written(p.Version) {
				t.Fatal(w, l, turns, is)
			}
			delete(is, p.Name)
			for _, name := range p.Components {
				if is[p.Name+"/"+name] == "" {
					t.Fatal(w, l, turns, is)
				}
				delete(is, p.Name+"/"+name)
			}
		}
		if len(is) != 0 {
			t.Fatal(w, l, turns, is)
		}
	}
}
