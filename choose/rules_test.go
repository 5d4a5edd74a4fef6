package choose_test

import (
	"math/rand/v2"
	"slices"
	"strconv"
	"strings"
	"testing"

	"outfitter/api"
	"outfitter/choose"
)

// everyError calls all functions with a world.
func everyError(w api.World, l []api.Want, picks []api.Pick) []api.Errno {
	_, a := choose.Find(w, "none", api.Version{Major: -1})
	_, b := choose.Right(w, l, picks)
	_, c := choose.Rank(w, l, 0, picks)
	_, d := choose.Choose(w, l, 0)
	_, e := choose.Explain(w, l)
	_, f := choose.Order(w, picks)
	_, g := choose.Changes(w, picks)
	_, h := choose.Needed(w, "none")
	_, i := choose.Orphans(w)
	_, j := choose.Wants(w)
	return []api.Errno{choose.Check(w), a, b, c, d, e, f, g, h, i, j}
}

// TestG3First sees that all functions with a world look at it ahead of all else.
func TestG3First(t *testing.T) {
	for i, c := range []struct {
		do   func(w *api.World)
		want api.Errno
	}{
		{func(w *api.World) { w.Packages = make([]api.Package, 61) }, api.ErrLarge},
		{func(w *api.World) { w.Packages[8].Title = "\n" }, api.ErrForm},
		{func(w *api.World) { w.Packages[8] = w.Packages[7] }, api.ErrOrder},
		{func(w *api.World) { w.Installed = installs("tool 1.0.0 core core") }, api.ErrOrder},
		{func(w *api.World) { w.Installed = installs("lib 1.0.0 none") }, api.ErrNone},
		{func(w *api.World) { w.Facts = pairs("A=x") }, api.ErrName},
		{func(w *api.World) { w.Settings[0].Value = "\n" }, api.ErrForm},
	} {
		w := shop()
		c.do(&w)
		for j, e := range everyError(w, make([]api.Want, 9), picks("none 1.0.0")) {
			if e != c.want {
				t.Errorf("%d: %d: %d, not %d", i, j, e, c.want)
			}
		}
	}
}

// TestG3Empty sees that nil and empty lists are the same.
func TestG3Empty(t *testing.T) {
	w := shop()
	w.Installed = []api.Install{{Name: "lib", Version: number(1), Components: []string{}}}
	some := []api.Want{{Name: "lib", Range: spans("*"), Components: []string{}}}
	pick(t, w, "lib *", api.ModeKeep, "lib 1.0.0 core")
	if got, e := choosePicks(w, some, api.ModeKeep); got != "lib 1.0.0 core" || e != api.OK {
		t.Error(got, e)
	}
	empty := api.World{Packages: []api.Package{}, Installed: []api.Install{}, Facts: []api.Setting{}, Settings: []api.Setting{}}
	if is, e := choose.Right(empty, []api.Want{}, []api.Pick{}); !is || e != api.OK {
		t.Error(is, e)
	}
	if l, e := choose.Order(empty, []api.Pick{}); len(l) != 0 || e != api.OK {
		t.Error(l, e)
	}
	if l, e := choose.Changes(w, []api.Pick{{Name: "lib", Version: number(1), Components: []string{}}}); len(l) != 0 || e != api.OK {
		t.Error(l, e)
	}
}

// TestG1Hard has worlds as large as they can be, in which much stands in the way of much.
func TestG1Hard(t *testing.T) {
	rnd := rand.New(rand.NewPCG(9, 10))
	lost := 0
	for round := range 12 {
		w := full()
		for i := range w.Packages {
			p := &w.Packages[i]
			for other := range names(api.MaxNames) {
				name := string(rune('a' + other))
				many := 1 + rnd.IntN(3)
				if round%3 == 0 {
					many = rnd.IntN(3)
				}
				if name != p.Name && many > 0 {
					p.Bars = append(p.Bars, api.Need{Name: name, Range: guessMajors(rnd, many)})
				}
				if name != p.Name && rnd.IntN(6) == 0 {
					p.Needs = append(p.Needs, api.Need{Name: name, Range: guessMajors(rnd, 4)})
				}
			}
		}
		var l []api.Want
		for i := range api.MaxWants {
			l = append(l, wants(string(rune('a'+i))+" *")...)
		}
		t.Run("Choose", func(t *testing.T) {
			if _, e := choose.Choose(w, l, modes[round%3]); e != api.OK && e != api.ErrNone {
				t.Error(e)
			}
		})
		t.Run("Explain", func(t *testing.T) {
			_, e := choose.Explain(w, l)
			if e != api.OK && e != api.ErrState {
				t.Error(e)
			}
			if e == api.OK {
				lost++
			}
		})
	}
	if lost == 0 || lost == 12 {
		t.Error("too little is tried:", lost)
	}
}

// guessMajors is a range of some major versions from 1 to MaxVersions.
func guessMajors(rnd *rand.Rand, many int) api.Range {
	majors := rnd.Perm(api.MaxVersions)[:many]
	slices.Sort(majors)
	var r api.Range
	for _, i := range majors {
		s := api.Span{HasFrom: true, From: number(i + 1), HasTo: true, To: api.Version{Major: i + 1, Minor: 1}}
		r.Spans = append(r.Spans, s)
	}
	return r
}

// TestG1Circle has as many packages as can be, all of which need each other but for what the last one bars.
func TestG1Circle(t *testing.T) {
	w := full()
	for i := range w.Packages {
		p := &w.Packages[i]
		for other := range names(api.MaxNames) {
			if name := string(rune('a' + other)); name != p.Name {
				p.Needs = append(p.Needs, api.Need{Name: name, Range: spans("*")})
			}
		}
		if p.Name == "h" {
			p.Bars = []api.Need{{Name: "g", Range: spans("*")}}
		}
	}
	t.Run("Choose", func(t *testing.T) {
		if l, e := choose.Choose(w, wants("a *"), api.ModeNewest); len(l) != 0 || e != api.ErrNone {
			t.Error(l, e)
		}
	})
	t.Run("Explain", func(t *testing.T) {
		if l, e := choose.Explain(w, wants("c *, a *, b *, d *, e *, f *, g *, h *")); !slices.Equal(l, []int{0}) || e != api.OK {
			t.Error(l, e)
		}
	})
	l, e := choose.Order(w, picks("h 1.0.0, a 1.0.0, b 1.0.0, c 1.0.0, d 1.0.0, e 1.0.0, f 1.0.0, g 1.0.0"))
	if !slices.Equal(l, strings.Fields("h g f e d c b a")) || e != api.OK {
		t.Error(l, e)
	}
}

// TestG1Components has packages with as many components as can be, and many items; all wants are for one of them.
func TestG1Components(t *testing.T) {
	w := full()
	for i := range w.Packages {
		p := &w.Packages[i]
		p.Components = nil
		for k := range api.MaxComponents {
			c := api.Component{Name: "c" + strconv.Itoa(100+k), When: api.Cond{Kind: api.CondAll, Args: slices.Repeat([]api.Cond{{Kind: api.CondTrue}}, api.MaxCond-1)}}
			for j := range 30 {
				c.Items = append(c.Items, api.Item{Kind: api.ItemSetting, Setting: api.Setting{Key: p.Name + "/" + strconv.Itoa(k) + "/" + strconv.Itoa(j)}})
			}
			// The last component of each package clashes with that of each other one.
			if k == api.MaxComponents-1 {
				c.Items = append(c.Items, api.Item{Kind: api.ItemSetting, Setting: api.Setting{Key: "same"}})
			}
			for other := range k {
				if other < api.MaxComponents-1 && k < api.MaxComponents-1 {
					c.Needs = append(c.Needs, "c"+strconv.Itoa(100+other))
				}
			}
			p.Components = append(p.Components, c)
		}
	}
	t.Run("Explain", func(t *testing.T) {
		l := slices.Concat(wants("a * c100, a * c101, a * c102, a * c103, a * c104, a * c105"), wants("b * c129, a * c129"))
		if l, e := choose.Explain(w, l); !slices.Equal(l, []int{6, 7}) || e != api.OK {
			t.Error(l, e)
		}
	})
	t.Run("Choose", func(t *testing.T) {
		got, e := choosePicks(w, wants("a * c101, b * c129"), api.ModeNewest)
		if got != "a 6.0.0 c100 c101, b 6.0.0 c129" || e != api.OK {
			t.Error(got, e)
		}
	})
}

// TestG1Long has lists and texts far beyond what can be needed.
func TestG1Long(t *testing.T) {
	const many = 100000
	long := strings.Repeat("a", many)
	w := shop()
	w.Installed = make([]api.Install, many)
	check(t, "many installed", w, api.ErrNone)
	w = shop()
	w.Installed = []api.Install{{Name: "lib", Version: number(1), Components: make([]string, many)}}
	check(t, "many components", w, api.ErrNone)
	check(t, "many packages", api.World{Packages: make([]api.Package, many)}, api.ErrLarge)
	if is, e := choose.Right(shop(), make([]api.Want, many), nil); is || e != api.ErrLarge {
		t.Error(is, e)
	}
	if is, e := choose.Right(shop(), []api.Want{{Name: "lib", Components: make([]string, many)}}, nil); is || e != api.ErrLarge {
		t.Error(is, e)
	}
	if is, e := choose.Right(shop(), []api.Want{{Name: long}}, nil); is || e != api.ErrName {
		t.Error(is, e)
	}
	for _, p := range []api.Pick{{}, {Name: long}, {Name: "lib", Version: number(1), Components: make([]string, many)}} {
		l := slices.Repeat([]api.Pick{p}, many)
		if is, e := choose.Right(shop(), wants("lib *"), l); is || e != api.OK {
			t.Error(is, e)
		}
		if l, e := choose.Order(shop(), l); len(l) != 0 || e == api.OK {
			t.Error(l, e)
		}
		if l, e := choose.Changes(shop(), l[:1]); len(l) != 0 || e != api.ErrNone {
			t.Error(l, e)
		}
	}
}

// TestG1Within has a condition that holds itself.
func TestG1Within(t *testing.T) {
	c := api.Cond{Kind: api.CondAll, Args: make([]api.Cond, 1)}
	c.Args[0] = c
	w := shop()
	w.Packages[8].Components[2].When = c
	for _, e := range everyError(w, nil, nil) {
		if e != api.ErrLarge {
			t.Error(e)
		}
	}
}

// widen gives a list room for more, in which nothing stands.
func widen[T any](l []T) []T {
	wide := make([]T, len(l)+2)
	copy(wide, l)
	return wide[:len(l)]
}

// wipe writes zeros over a list, also behind it.
func wipe[T any](l []T) { clear(l[:cap(l)]) }

// isZero reports whether there is nothing behind a list, as far as it has room.
func isZero[T any](l []T) bool {
	behind := l[len(l):cap(l)]
	return same(behind, make([]T, len(behind)))
}

// crowded is shop with something of everything, and something installed.
func crowded() api.World {
	w := shop()
	r := api.Range{Spans: []api.Span{{HasTo: true, To: number(1)}}}
	for i := range w.Packages {
		p := &w.Packages[i]
		p.Bars = append(p.Bars, api.Need{Name: "none", Range: r})
		p.Moves = []api.Move{{From: api.Range{Spans: slices.Clone(r.Spans)}, To: number(1), Rules: []string{"drop x"}}}
		c := &p.Components[0]
		c.Steps = []api.Step{{Kind: api.StepSet, Name: "size", Value: "2"}}
		c.When = api.Cond{Kind: api.CondAll, Args: []api.Cond{{Kind: api.CondAny, Args: []api.Cond{{Kind: api.CondTrue}}}}}
	}
	w.Installed = installs("!app 1.0.0 core, lib 1.0.0 core, old 1.0.0 core, !tool 1.0.0 core words")
	return w
}

// roomy gives each list of a world room for more.
func roomy(w api.World) api.World {
	w.Packages, w.Installed, w.Facts, w.Settings = widen(w.Packages), widen(w.Installed), widen(w.Facts), widen(w.Settings)
	for i := range w.Installed {
		w.Installed[i].Components = widen(w.Installed[i].Components)
	}
	for i := range w.Packages {
		p := &w.Packages[i]
		p.Needs, p.Bars, p.Components, p.Moves = widen(p.Needs), widen(p.Bars), widen(p.Components), widen(p.Moves)
		for _, l := range [][]api.Need{p.Needs, p.Bars} {
			for i := range l {
				l[i].Range.Spans = widen(l[i].Range.Spans)
			}
		}
		for i := range p.Components {
			c := &p.Components[i]
			c.Needs, c.Items, c.Steps, c.When.Args = widen(c.Needs), widen(c.Items), widen(c.Steps), widen(c.When.Args)
		}
		for i := range p.Moves {
			p.Moves[i].Rules, p.Moves[i].From.Spans = widen(p.Moves[i].Rules), widen(p.Moves[i].From.Spans)
		}
	}
	return w
}

// isClean reports whether a world that is roomy is as crowded, and has nothing behind its lists.
func isClean(w api.World) bool {
	clean := same(w, crowded()) && isZero(w.Packages) && isZero(w.Installed) && isZero(w.Facts) && isZero(w.Settings)
	for _, in := range w.Installed {
		clean = clean && isZero(in.Components)
	}
	for _, p := range w.Packages {
		clean = clean && isZero(p.Needs) && isZero(p.Bars) && isZero(p.Components) && isZero(p.Moves)
		for _, n := range slices.Concat(p.Needs, p.Bars) {
			clean = clean && isZero(n.Range.Spans)
		}
		for _, c := range p.Components {
			clean = clean && isZero(c.Needs) && isZero(c.Items) && isZero(c.Steps) && isZero(c.When.Args)
		}
		for _, m := range p.Moves {
			clean = clean && isZero(m.Rules) && isZero(m.From.Spans)
		}
	}
	return clean
}

// TestG2 sees that arguments stay as they were, and that results do not lie in them.
func TestG2(t *testing.T) {
	w := roomy(crowded())
	l := widen([]api.Want{{Name: "tool", Range: api.Range{Spans: widen(spans("*").Spans)}, Components: widen([]string{"server", "core"})}, {Name: "app", Range: spans(">=2.0.0")}})
	made := widen([]api.Pick{{Name: "tool", Version: number(2), Components: widen([]string{"server", "core"})}, {Name: "lib", Version: number(2), Components: widen([]string{"core"})}})
	clean := func(what any) {
		t.Helper()
		isSame := same(l, append(wants("tool * server core"), wants("app >=2.0.0")...)) && same(made, picks("tool 2.0.0 server core, lib 2.0.0 core"))
		if !isSame || !isClean(w) || !isZero(l) || !isZero(l[0].Components) || !isZero(l[0].Range.Spans) || !isZero(made) || !isZero(made[0].Components) {
			t.Fatal(what, "changes arguments")
		}
	}
	for i := range 2 {
		got, e := choose.Choose(w, l, api.ModeKeep)
		if show(got) != "app 2.0.0 core, lib 3.0.0 core, tool 1.0.0 core words server" || e != api.OK {
			t.Error(i, show(got), e)
		}
		rank, e := choose.Rank(w, l, api.ModeKeep, got)
		if !slices.Equal(rank, []int{0, 2, 2, 1}) || e != api.OK {
			t.Error(i, rank, e)
		}
		why, _ := choose.Explain(w, append(widen(l), wants("lib <2.0.0")...))
		order, _ := choose.Order(w, made)
		turns, _ := choose.Changes(w, made)
		needed, _ := choose.Needed(w, "lib")
		orphans, _ := choose.Orphans(w)
		if !slices.Equal(why, []int{1, 2}) || len(order) != 2 || showTurns(turns) != "-old 1.0.0 -core, -app 1.0.0 -core, ^lib 1.0.0 2.0.0, ^tool 1.0.0 2.0.0 +server -words" || len(needed) != 2 || len(orphans) != 1 {
			t.Error(i, why, order, showTurns(turns), needed, orphans)
		}
		clean("some function")
		for _, p := range got {
			wipe(p.Components)
		}
		for _, turn := range turns {
			wipe(turn.Added)
			wipe(turn.Dropped)
		}
		for _, names := range [][]string{order, needed, orphans} {
			wipe(names)
		}
		clean("what is written over a result")
	}
}

// TestG2Find sees that packages that are found, and wants, share no memory with the world.
func TestG2Find(t *testing.T) {
	w := roomy(crowded())
	for i, q := range crowded().Packages {
		p, e := choose.Find(w, q.Name, q.Version)
		again, f := choose.Find(w, q.Name, q.Version)
		if !same(p, q) || e != api.OK || f != api.OK {
			t.Fatal(i, p, e, f)
		}
		for _, n := range slices.Concat(p.Needs, p.Bars) {
			wipe(n.Range.Spans)
		}
		for _, c := range p.Components {
			for _, arg := range c.When.Args {
				wipe(arg.Args)
			}
			wipe(c.When.Args)
			wipe(c.Needs)
			wipe(c.Items)
			wipe(c.Steps)
		}
		for _, m := range p.Moves {
			wipe(m.Rules)
			wipe(m.From.Spans)
		}
		wipe(p.Needs)
		wipe(p.Bars)
		wipe(p.Components)
		wipe(p.Moves)
		if !isClean(w) || !same(again, q) {
			t.Fatal(i, "what is found lies in the world")
		}
	}
	l, _ := choose.Wants(w)
	wipe(l[0].Range.Spans)
	if len(l) != 2 || !same(l[1], wants("tool >=1.0.0")[0]) || !isClean(w) {
		t.Error(l)
	}
}
