package pack_test

import (
	"math/rand/v2"
	"slices"
	"strings"
	"testing"

	"outfitter/api"
	"outfitter/pack"
)

func TestP47Items(t *testing.T) {
	core := []api.Item{program("bin/app", "\x00app"), textual("etc/app.conf", "a\n"), shared("lib/words", "\x00app"), setting("app/size", `"2"\`)}
	for chosen, want := range map[string][]api.Item{
		"":       core,
		"core":   core,
		"words":  core,
		"plain":  core,
		"server": {core[0], core[1], core[2], data("var/data", ""), core[3], setting("server", ""), service("appd", "lib/words"), service("appe", "bin/app")},
	} {
		if l, e := pack.Items(some(), strings.Fields(chosen)); !slices.Equal(l, want) || e != api.OK {
			t.Errorf("Items(%s): %v, %d", chosen, l, e)
		}
	}
	if l, e := pack.Items(small(part("a")), []string{"a"}); len(l) != 0 || e != api.OK {
		t.Error(l, e)
	}
	// Order is by bytes.
	mixed := small(having("a", service("b", "a/b"), setting("a/c", ""), data("a/b", ""), data("a.b", ""), setting("a-c", ""), program("Z", ""), service("a.b", "Z"), setting("Z", ""), shared("a-b", ""), textual("a0", "")))
	want := []api.Item{program("Z", ""), shared("a-b", ""), data("a.b", ""), data("a/b", ""), textual("a0", ""), setting("Z", ""), setting("a-c", ""), setting("a/c", ""), service("a.b", "Z"), service("b", "a/b")}
	if l, e := pack.Items(mixed, []string{"a"}); !slices.Equal(l, want) || e != api.OK {
		t.Error(l, e)
	}
}

func TestP47Errors(t *testing.T) {
	for chosen, want := range chosenErrors() {
		l := strings.Fields(chosen)
		if items, e := pack.Items(some(), l); len(items) != 0 || e != want {
			t.Errorf("Items(%s): %v, %d", chosen, items, e)
		}
		if steps, e := pack.Steps(some(), l); len(steps) != 0 || e != want {
			t.Errorf("Steps(%s): %v, %d", chosen, steps, e)
		}
		if clashes, e := pack.Clashes([]api.Package{some()}, [][]string{l}); len(clashes) != 0 || e != want {
			t.Errorf("Clashes(%s): %v, %d", chosen, clashes, e)
		}
	}
	if l, e := pack.Items(wrong(), []string{"none"}); len(l) != 0 || e != api.ErrName {
		t.Error(l, e)
	}
	if l, e := pack.Steps(wrong(), []string{"none"}); len(l) != 0 || e != api.ErrName {
		t.Error(l, e)
	}
}

// stepped gives each component of a package a step that tells its name.
func stepped(l ...api.Component) api.Package {
	for i := range l {
		l[i].Steps = []api.Step{{Kind: api.StepUnset, Name: l[i].Name}}
	}
	return small(l...)
}

func TestP47Steps(t *testing.T) {
	all := some()
	core, server := all.Components[0].Steps, all.Components[1].Steps
	for chosen, want := range map[string][]api.Step{"": core, "plain": core, "server": slices.Concat(core, server)} {
		if l, e := pack.Steps(some(), strings.Fields(chosen)); !slices.Equal(l, want) || e != api.OK {
			t.Errorf("Steps(%s): %v, %d", chosen, l, e)
		}
	}
	order := stepped(part("e", "c", "b"), part("b", "f"), part("d", "e"), part("c", "a", "b"), part("a"), part("f"), part("g", "d"))
	for _, c := range []struct{ chosen, want string }{
		{"", ""},
		{"a b", "f b a"},
		{"f b", "f b"},
		{"c", "f b a c"},
		{"e", "a f b c e"},
		{"d", "a f b c e d"},
		{"g", "a f b c e d g"},
		{"a c", "f b a c"},
	} {
		l, e := pack.Steps(order, strings.Fields(c.chosen))
		var names []string
		for _, s := range l {
			names = append(names, s.Name)
		}
		if !slices.Equal(names, strings.Fields(c.want)) || e != api.OK {
			t.Errorf("Steps(%s): %v, %d, not %s", c.chosen, names, e, c.want)
		}
	}
}

func clash(first, second, kind int, name string) api.Clash {
	return api.Clash{First: first, Second: second, Kind: kind, Name: name}
}

// named is a package with a name, and a component for each kind of item that can be in the way.
func named(name string) api.Package {
	p := small(having("a", shared("b/x", "1"), setting("a", ""), service("a", "b/x")), having("b", program("a", ""), setting("b", "")), part("c"))
	p.Name = name
	return p
}

func TestP47Clashes(t *testing.T) {
	three := []api.Package{named("z"), named("a"), named("m")}
	for i, c := range []struct {
		chosen [3]string
		want   []api.Clash
	}{
		{[3]string{"", "", ""}, nil},
		{[3]string{"a", "b", "c"}, nil},
		{[3]string{"a", "", "a"}, []api.Clash{clash(0, 2, 2, "a"), clash(0, 2, 3, "a")}},
		{[3]string{"", "b", "b a"}, []api.Clash{clash(1, 2, 1, "a"), clash(1, 2, 2, "b")}},
		{[3]string{"a b", "b", "a"}, []api.Clash{clash(0, 1, 1, "a"), clash(0, 1, 2, "b"), clash(0, 2, 2, "a"), clash(0, 2, 3, "a")}},
		{[3]string{"b", "b", "b"}, []api.Clash{clash(0, 1, 1, "a"), clash(0, 1, 2, "b"), clash(0, 2, 1, "a"), clash(0, 2, 2, "b"), clash(1, 2, 1, "a"), clash(1, 2, 2, "b")}},
	} {
		var chosen [][]string
		for _, names := range c.chosen {
			chosen = append(chosen, strings.Fields(names))
		}
		if l, e := pack.Clashes(three, chosen); !slices.Equal(l, c.want) || e != api.OK {
			t.Errorf("Clashes %d: %v, %d", i, l, e)
		}
	}
	if l, e := pack.Clashes(nil, nil); len(l) != 0 || e != api.OK {
		t.Error(l, e)
	}
}

// TestP47Shared has two items each for one path.
func TestP47Shared(t *testing.T) {
	runs := shared("a", "x")
	runs.File.Runs = true
	for i, c := range []struct {
		x, y  api.Item
		clash bool
	}{
		{shared("a", "x"), shared("a", "x"), false},
		{shared("a", ""), shared("a", ""), false},
		{runs, runs, false},
		{shared("a", "x"), shared("a", "y"), true},
		{shared("a", "x"), runs, true},
		{shared("a", "x"), data("a", "x"), true},
		{textual("a", "x"), shared("a", "x"), true},
		{runs, program("a", "x"), true},
		{program("a", "x"), program("a", "x"), true},
		{textual("a", "x"), textual("a", "x"), true},
		{data("a", "x"), data("a", "x"), true},
		{shared("a", "x"), setting("a", "x"), false},
		{setting("a", "x"), setting("a", "x"), true},
		// Only what is there under the same path is in the way.
		{data("a", "x"), data("a/b", "x"), false},
	} {
		p, q := small(having("a", c.x)), small(having("a", c.y))
		q.Name = "other"
		l, e := pack.Clashes([]api.Package{p, q}, [][]string{{"a"}, {"a"}})
		if len(l) != 0 != c.clash || e != api.OK {
			t.Errorf("Clashes %d: %v, %d", i, l, e)
		}
	}
}

func TestP47ClashErrors(t *testing.T) {
	many := func(n int) ([]api.Package, [][]string) {
		var l []api.Package
		for i := range n {
			p := small(having("a", data("a", "")))
			p.Name = numbered(i)
			l = append(l, p)
		}
		return l, slices.Repeat([][]string{{"a"}}, n)
	}
	bad, none := wrong(), []string{"none"}
	for i, c := range []struct {
		l      []api.Package
		chosen [][]string
		want   api.Errno
	}{
		{[]api.Package{bad}, nil, api.ErrForm},
		{nil, [][]string{none}, api.ErrForm},
		{make([]api.Package, 101), make([][]string, 100), api.ErrForm},
		{make([]api.Package, 101), make([][]string, 101), api.ErrLarge},
		{make([]api.Package, 100), make([][]string, 100), api.ErrName},
		{[]api.Package{named("a"), named("b"), named("a")}, make([][]string, 3), api.ErrTwice},
		{[]api.Package{named("a"), named("a"), bad}, make([][]string, 3), api.ErrTwice},
		{[]api.Package{named("a"), bad, named("a")}, make([][]string, 3), api.ErrName},
		{[]api.Package{named("a"), named("a")}, [][]string{nil, none}, api.ErrNone},
		{[]api.Package{named("a"), named("a")}, [][]string{{"a", "a"}, none}, api.ErrTwice},
		{[]api.Package{named("a"), {Name: "a"}}, [][]string{nil, nil}, api.ErrEmpty},
		{[]api.Package{named("a"), named("b"), bad}, [][]string{nil, {"a", "a"}, nil}, api.ErrTwice},
	} {
		if clashes, e := pack.Clashes(c.l, c.chosen); len(clashes) != 0 || e != c.want {
			t.Errorf("Clashes %d: %v, %d", i, clashes, e)
		}
	}
	l, chosen := many(101)
	if clashes, e := pack.Clashes(l, chosen); len(clashes) != 0 || e != api.ErrLarge {
		t.Error(clashes, e)
	}
	l, chosen = many(100)
	if clashes, e := pack.Clashes(l, chosen); len(clashes) != 100*99/2 || e != api.OK {
		t.Error(len(clashes), e)
	}
}

// TestP47Chance holds packages made by chance against each of their items, and each two of their packages.
func TestP47Chance(t *testing.T) {
	rnd := rand.New(rand.NewPCG(5, 6))
	some, count := 0, 0
	for range 3000 {
		var l []api.Package
		var chosen [][]string
		var brought [][]api.Item
		for i := range 1 + rnd.IntN(6) {
			p := guessGood(rnd)
			p.Name = numbered(9 - i)
			var names []string
			for _, c := range p.Components {
				if rnd.IntN(4) > 0 {
					names = append(names, c.Name)
				}
			}
			l, chosen = append(l, p), append(chosen, names)
			brought = append(brought, itemsOf(t, p, names))
			stepsOf(t, p, names)
		}
		var want []api.Clash
		for i := range l {
			for j := i + 1; j < len(l); j++ {
				for _, x := range brought[i] {
					for _, y := range brought[j] {
						if placeOf(x) == placeOf(y) && (x.Kind != api.ItemShared || x != y) {
							at := placeOf(x)
							want = append(want, clash(i, j, int(at[0]-'0'), at[1:]))
						}
						if x == y && x.Kind == api.ItemShared {
							some++
						}
					}
				}
			}
		}
		count += len(want)
		if got, e := pack.Clashes(l, chosen); !slices.Equal(got, want) || e != api.OK {
			t.Fatal(l, chosen, got, want, e)
		}
	}
	if some < 50 || count < 1000 {
		t.Error("too little is in the way:", some, count)
	}
}

// itemsOf sees that Items are those of the closed components.
func itemsOf(t *testing.T, p api.Package, names []string) []api.Item {
	t.Helper()
	closed, e := pack.Closed(p, names)
	if e != api.OK {
		t.Fatal(e)
	}
	var want []api.Item
	for _, name := range closed {
		c, _ := pack.Component(p, name)
		want = append(want, c.Items...)
	}
	slices.SortFunc(want, func(x, y api.Item) int { return strings.Compare(placeOf(x), placeOf(y)) })
	got, e := pack.Items(p, names)
	if !slices.Equal(got, want) || e != api.OK {
		t.Fatal(p, names, got, e)
	}
	return got
}

// stepsOf sees that Steps are those of the closed components, each behind what it needs.
func stepsOf(t *testing.T, p api.Package, names []string) {
	t.Helper()
	closed, _ := pack.Closed(p, names)
	needs := map[string]api.Component{}
	for _, c := range p.Components {
		needs[c.Name] = c
	}
	var order []string
	for _, name := range closed {
		order = waitFor(needs, name, order)
	}
	var want []api.Step
	for _, name := range order {
		want = append(want, needs[name].Steps...)
	}
	if got, e := pack.Steps(p, names); !slices.Equal(got, want) || e != api.OK {
		t.Fatal(p, names, got, e)
	}
}

// waitFor puts a component, unless it is there, behind all that it waits for.
func waitFor(needs map[string]api.Component, name string, order []string) []string {
	for _, other := range needs[name].Needs {
		order = waitFor(needs, other, order)
	}
	if slices.Contains(order, name) {
		return order
	}
	return append(order, name)
}
