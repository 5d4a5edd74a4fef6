package pack_test

import (
	"math/rand/v2"
	"slices"
	"strings"
	"testing"

	"outfitter/api"
	"outfitter/pack"
)

func TestP46Closed(t *testing.T) {
	p := small(part("e", "c", "b"), part("b"), part("d", "e"), part("c", "a", "b"), part("a"), part("f", "g"), part("g"))
	alike := small(p.Components...)
	alike.Components = slices.Clone(p.Components)
	alike.Components[5].Always = true
	for _, c := range []struct {
		p            api.Package
		chosen, want string
	}{
		{p, "", ""},
		{p, "a", "a"},
		{p, "a b", "b a"},
		{p, "b a", "b a"},
		{p, "c", "b c a"},
		{p, "e", "e b c a"},
		{p, "d", "e b d c a"},
		{p, "d a e", "e b d c a"},
		{p, "g", "g"},
		{p, "f", "f g"},
		{p, "g d f", "e b d c a f g"},
		{alike, "", "f g"},
		{alike, "a", "a f g"},
		{alike, "f a", "a f g"},
		{alike, "g d f", "e b d c a f g"},
		{some(), "", "core words"},
		{some(), "plain", "core words plain"},
		{some(), "server", "core server words"},
	} {
		l, e := pack.Closed(c.p, strings.Fields(c.chosen))
		if !slices.Equal(l, strings.Fields(c.want)) || e != api.OK {
			t.Errorf("Closed(%s): %v, %d, not %s", c.chosen, l, e, c.want)
		}
	}
}

// chosenErrors are errors of what is chosen from some.
func chosenErrors() map[string]api.Errno {
	return map[string]api.Errno{
		"none": api.ErrNone, "Core": api.ErrNone, "?": api.ErrNone, "some": api.ErrNone, "server none": api.ErrNone,
		"core core": api.ErrTwice, "server core server": api.ErrTwice,
		"core core none": api.ErrTwice, "core none core": api.ErrNone, "none none": api.ErrNone,
	}
}

func TestP46ClosedErrors(t *testing.T) {
	for chosen, want := range chosenErrors() {
		if l, e := pack.Closed(some(), strings.Fields(chosen)); len(l) != 0 || e != want {
			t.Errorf("Closed(%s): %v, %d", chosen, l, e)
		}
	}
	if l, e := pack.Closed(some(), []string{""}); len(l) != 0 || e != api.ErrNone {
		t.Error(l, e)
	}
	if l, e := pack.Closed(wrong(), []string{"none"}); len(l) != 0 || e != api.ErrName {
		t.Error(l, e)
	}
}

// conditional is a package whose components are allowed for some facts and settings.
func conditional() api.Package {
	p := small(part("e", "c"), part("b"), part("d"), part("c", "b", "a"), part("a"), part("f", "d"))
	p.Components[1].When = fact("os", "x")
	p.Components[2].When = api.Cond{Kind: api.CondHas, Name: "Q/d"}
	p.Components[4].When = api.Cond{Kind: api.CondNot, Args: []api.Cond{fact("os", "y")}}
	p.Components[0].Default = true
	p.Components[5].Always = true
	p.Components[4].Default, p.Components[4].Always = true, true
	return p
}

func TestP46Allowed(t *testing.T) {
	for _, c := range []struct{ facts, settings, allowed, defaults string }{
		{"", "", "a", "a"},
		{"os=x", "", "e b c a", "e b c a"},
		{"os=y", "", "", ""},
		{"os=z", "Q/d=", "d a f", "d a f"},
		{"Q/d=", "", "", ""},
		{"cpu=x os=x", "Q/c=x Q/d=x", "e b d c a f", "e b d c a f"},
		{"os=y", "Q/d=x", "d f", "d f"},
		{"", "os=x", "a", "a"},
	} {
		facts, settings := pairs(c.facts), pairs(c.settings)
		l, e := pack.Allowed(conditional(), facts, settings)
		d, f := pack.Defaults(conditional(), facts, settings)
		if c.facts == "Q/d=" {
			if len(l) != 0 || len(d) != 0 || e != api.ErrName || f != api.ErrName {
				t.Error(l, e, d, f)
			}
			continue
		}
		if !slices.Equal(l, strings.Fields(c.allowed)) || e != api.OK {
			t.Errorf("Allowed(%s, %s): %v, %d", c.facts, c.settings, l, e)
		}
		if !slices.Equal(d, strings.Fields(c.defaults)) || f != api.OK {
			t.Errorf("Defaults(%s, %s): %v, %d", c.facts, c.settings, d, f)
		}
	}
}

// pairs reads facts or settings: KEY=VALUE, with blanks between.
func pairs(text string) []api.Setting {
	var l []api.Setting
	for _, word := range strings.Fields(text) {
		key, value, _ := strings.Cut(word, "=")
		l = append(l, pair(key, value))
	}
	return l
}

func TestP46Defaults(t *testing.T) {
	unix := pairs("os=unix")
	for _, c := range []struct {
		do   func(p *api.Package)
		want string
	}{
		{func(p *api.Package) {}, "core server words"},
		{func(p *api.Package) { p.Components[1].Default = false }, "core words"},
		{func(p *api.Package) { p.Components[1].Default, p.Components[1].Always = false, true }, "core server words"},
		// What is neither is there if it is needed.
		{func(p *api.Package) { p.Components[2].Default, p.Components[2].Always = false, false }, "core server words"},
		{func(p *api.Package) { p.Components[0].Always = false }, "core server words"},
		{func(p *api.Package) { p.Components[0].Always, p.Components[1].Default = false, false }, "words"},
		// What is always there, and not allowed, is not among them, nor what needs it; Closed has it.
		{func(p *api.Package) { p.Components[0].When.Kind = api.CondAny }, "words"},
		{func(p *api.Package) { p.Components[2].When = fact("os", "x") }, "core"},
		{func(p *api.Package) { p.Components[3].Default, p.Components[3].When = true, fact("os", "x") }, "core server words"},
		{func(p *api.Package) { p.Components[3].Default, p.Components[3].When = true, fact("os", "unix") }, "core server words plain"},
	} {
		p := some()
		c.do(&p)
		if l, e := pack.Defaults(p, unix, nil); !slices.Equal(l, strings.Fields(c.want)) || e != api.OK {
			t.Errorf("Defaults: %v, %d, not %s", l, e, c.want)
		}
	}
	if l, e := pack.Defaults(some(), nil, nil); !slices.Equal(l, []string{"core", "words"}) || e != api.OK {
		t.Error(l, e)
	}
	p := some()
	p.Components[0].When.Kind = api.CondAny
	if l, e := pack.Closed(p, nil); !slices.Equal(l, []string{"core", "words"}) || e != api.OK {
		t.Error(l, e)
	}
}

func TestP46FactErrors(t *testing.T) {
	for i, c := range []struct {
		p               api.Package
		facts, settings []api.Setting
		want            api.Errno
	}{
		{some(), []api.Setting{pair("a/b", "")}, nil, api.ErrName},
		{some(), []api.Setting{pair("a", "\n")}, nil, api.ErrForm},
		{some(), pairs("b=x a=x"), nil, api.ErrOrder},
		{some(), pairs("a=x a=x"), []api.Setting{pair("?", "")}, api.ErrOrder},
		{some(), nil, []api.Setting{pair("/", "\n")}, api.ErrName},
		{some(), nil, []api.Setting{pair("a/b", "\n")}, api.ErrForm},
		{some(), nil, pairs("a/b=x a=x"), api.ErrOrder},
		// A package whose conditions need no facts is no other.
		{small(part("a")), pairs("b=x a=x"), nil, api.ErrOrder},
		{small(), pairs("b=x a=x"), nil, api.ErrEmpty},
		{wrong(), pairs("b=x a=x"), nil, api.ErrName},
	} {
		if l, e := pack.Allowed(c.p, c.facts, c.settings); len(l) != 0 || e != c.want {
			t.Errorf("Allowed %d: %v, %d", i, l, e)
		}
		if l, e := pack.Defaults(c.p, c.facts, c.settings); len(l) != 0 || e != c.want {
			t.Errorf("Defaults %d: %v, %d", i, l, e)
		}
	}
}

// TestP46Chance holds packages made by chance against what is reached in them.
func TestP46Chance(t *testing.T) {
	rnd := rand.New(rand.NewPCG(3, 4))
	for range 3000 {
		p := guessGood(rnd)
		needs := map[string][]string{}
		var chosen, start []string
		for _, c := range p.Components {
			needs[c.Name] = c.Needs
			if rnd.IntN(3) == 0 {
				chosen = append(chosen, c.Name)
			}
			if c.Always {
				start = append(start, c.Name)
			}
		}
		rnd.Shuffle(len(chosen), func(i, j int) { chosen[i], chosen[j] = chosen[j], chosen[i] })
		if l, e := pack.Closed(p, chosen); !slices.Equal(l, within(p, needs, append(start, chosen...))) || e != api.OK {
			t.Fatal(p, chosen, l, e)
		}
		facts := pairs("os=x")
		var allowed, defaults []string
		for _, c := range p.Components {
			holds := !slices.ContainsFunc(p.Components, func(d api.Component) bool {
				return slices.Contains(reach(needs, c.Name), d.Name) && d.When.Kind == api.CondFact && d.When.Value != "x"
			})
			if holds {
				allowed = append(allowed, c.Name)
			}
			if holds && (c.Default || c.Always) {
				defaults = append(defaults, c.Name)
			}
		}
		if l, e := pack.Allowed(p, facts, nil); !slices.Equal(l, allowed) || e != api.OK {
			t.Fatal(p, l, allowed, e)
		}
		if l, e := pack.Defaults(p, facts, nil); !slices.Equal(l, within(p, needs, defaults)) || e != api.OK {
			t.Fatal(p, l, defaults, e)
		}
	}
}

// within is what some components reach, in the order of the package.
func within(p api.Package, needs map[string][]string, start []string) []string {
	var l []string
	for _, c := range p.Components {
		if slices.ContainsFunc(start, func(name string) bool { return slices.Contains(reach(needs, name), c.Name) }) {
			l = append(l, c.Name)
		}
	}
	return l
}
