package migrate_test

import (
	"math"
	"math/rand/v2"
	"slices"
	"strconv"
	"strings"
	"testing"

	"outfitter/api"
	"outfitter/migrate"
)

// TestG1Long has arguments far beyond what can be needed.
func TestG1Long(t *testing.T) {
	huge := long(1 << 22)
	slashes := strings.Repeat("a/", 1<<21)
	t.Run("rules", func(t *testing.T) {
		for _, key := range []string{huge, slashes, "a/" + slashes} {
			for kind := -1; kind < 10; kind++ {
				for _, r := range []api.Rule{{Kind: kind, Key: key}, {Kind: kind, Key: "a", To: key}, {Kind: kind, Key: key, To: key, Old: key, New: key}} {
					if e := migrate.CheckRule(r); e != api.ErrKind && e != api.ErrName && e != api.ErrForm {
						t.Error(kind, e)
					}
					if s, e := migrate.PrintRule(r); s != "" || e == api.OK {
						t.Error(kind, e)
					}
				}
			}
			if r, e := migrate.ParseRule("drop " + key); r != (api.Rule{}) || e != api.ErrLarge {
				t.Error(e)
			}
			if e := migrate.CheckStep(api.Step{Kind: api.StepSet, Name: key, Value: key}); e != api.ErrName {
				t.Error(e)
			}
			if e := migrate.CheckMove(api.Move{Rules: []string{key}}); e != api.ErrLarge {
				t.Error(e)
			}
			if l, e := migrate.Changes(nil, []api.Setting{{Key: key, Value: key}}); len(l) != 0 || e != api.ErrName {
				t.Error(e)
			}
		}
	})
	all := many(1 << 20)
	t.Run("settings", func(t *testing.T) {
		if s, e := migrate.Run(all, nil); len(s) != 0 || e != api.ErrLarge {
			t.Error(e)
		}
		if is, e := migrate.Clean(all, nil); is || e != api.ErrLarge {
			t.Error(e)
		}
		if l, e := migrate.Changes(all[:1<<19], all[1<<19:]); len(l) != 1<<20 || e != api.OK {
			t.Error(len(l), e)
		}
		if s, e := migrate.Carry(all, nil, api.Version{}, api.Version{}); len(s) != 0 || e != api.ErrLarge {
			t.Error(e)
		}
	})
	t.Run("lists", func(t *testing.T) {
		if s, e := migrate.Run(nil, make([]api.Rule, 1<<20)); len(s) != 0 || e != api.ErrLarge {
			t.Error(e)
		}
		if l, e := migrate.InverseAll(make([]api.Rule, 1<<20)); len(l) != 0 || e != api.ErrLarge {
			t.Error(e)
		}
		if w, e := migrate.Way(make([]api.Move, 1<<20), api.Version{}, api.Version{}); len(w) != 0 || e != api.ErrLarge {
			t.Error(e)
		}
		if e := migrate.CheckMove(api.Move{Rules: make([]string, 1<<20)}); e != api.ErrLarge {
			t.Error(e)
		}
	})
}

// TestG1Steps has many steps, on a machine that is full.
func TestG1Steps(t *testing.T) {
	var l []api.Step
	for i := range 200000 {
		l = append(l, api.Step{Kind: api.StepSet, Name: numbered(i % api.MaxSettings), Value: "x" + strconv.Itoa(i)}, api.Step{Kind: api.StepStart + i%2, Name: numbered(7)})
	}
	t.Run("DoAll", func(t *testing.T) {
		if c, n, e := migrate.DoAll(full(), l); len(c) != len(l) || n != len(l) || e != api.OK {
			t.Error(len(c), n, e)
		}
	})
	l = append(l, api.Step{Kind: api.StepSet, Name: "x"})
	t.Run("DoAll", func(t *testing.T) {
		if c, n, e := migrate.DoAll(full(), l); len(c) != 0 || n != len(l)-1 || e != api.ErrLarge {
			t.Error(len(c), n, e)
		}
	})
}

// TestG1Full has as many settings, rules and moves as there can be, and a way that goes through all of them.
func TestG1Full(t *testing.T) {
	var all []api.Setting
	top := longKey(180)
	for i := range api.MaxSettings {
		all = append(all, api.Setting{Key: "a/" + top + "/" + numbered(i), Value: long(100)})
	}
	there := slices.Repeat([]string{`prefix a b`, `prefix b a`}, api.MaxRules/2)
	var l []api.Move
	early := "-" + strings.Repeat("1.", 15) + "a"
	for i := range 200 {
		var from []string
		for j := range 3 {
			from = append(from, "="+strconv.Itoa(j)+".0.0"+early)
		}
		from = append(from, "="+strconv.Itoa(1000+i)+".0.0"+early)
		l = append(l, move(strings.Join(from, ", "), strconv.Itoa(1001+i)+".0.0"+early, there...))
	}
	first, last := version("1000.0.0"+early), version("1200.0.0"+early)
	t.Run("Way", func(t *testing.T) {
		if w, e := migrate.Way(l, first, last); len(w) != 200 || e != api.OK {
			t.Error(len(w), e)
		}
		if w, e := migrate.Way(l, first, version("1200.0.0")); len(w) != 0 || e != api.ErrNone {
			t.Error(len(w), e)
		}
	})
	t.Run("Run", func(t *testing.T) {
		s, e := migrate.Run(all, rules(there...))
		isSettings(t, "Run", s, e, all, api.OK)
		if is, e := migrate.Clean(all, rules(there...)); !is || e != api.OK {
			t.Error(is, e)
		}
	})
	t.Run("Carry", func(t *testing.T) {
		s, e := migrate.Carry(all, l[:3], first, version("1003.0.0"+early))
		isSettings(t, "Carry", s, e, all, api.OK)
	})
	// A rule that finds nothing costs little.
	for i := range l {
		l[i].Rules = slices.Repeat([]string{`prefix x y`}, api.MaxRules)
	}
	t.Run("Carry", func(t *testing.T) {
		s, e := migrate.Carry(all, l, first, last)
		isSettings(t, "Carry", s, e, all, api.OK)
	})
}

// TestG1Chance has texts made by chance: what is read is printed again just so, else it is zero.
func TestG1Chance(t *testing.T) {
	odd := []string{" ", "  ", "\t", "\n", `"`, `\`, `""`, `" "`, "/", "a", "a/", "set ", "\x00", "\xff", "1"}
	rnd := rand.New(rand.NewPCG(11, 12))
	seen := map[api.Errno]int{}
	for range 200000 {
		text, e := migrate.PrintRule(guessRule(rnd, allKinds...))
		if e != api.OK {
			t.Fatal(e)
		}
		for range rnd.IntN(3) {
			at := rnd.IntN(len(text) + 1)
			piece := odd[rnd.IntN(len(odd))]
			if cut := rnd.IntN(len(text) - at + 1); rnd.IntN(2) == 0 {
				text = text[:at] + piece + text[at+cut:]
			} else {
				text = text[:at] + piece + text[at:]
			}
		}
		r, e := migrate.ParseRule(text)
		if s, f := migrate.PrintRule(r); e == api.OK && (s != text || f != api.OK) || e != api.OK && r != (api.Rule{}) {
			t.Fatalf("ParseRule(%q): %v, %d", text, r, e)
		}
		if e := migrate.CheckMove(api.Move{Rules: []string{text}}); (e == api.OK) != (r != api.Rule{}) {
			t.Fatal(text, e)
		}
		seen[e]++
	}
	for _, e := range []api.Errno{api.OK, api.ErrSyntax, api.ErrName, api.ErrForm} {
		if seen[e] < 100 {
			t.Error("too few are so:", e, seen)
		}
	}
}

// TestG1Any has fields of any kind.
func TestG1Any(t *testing.T) {
	numbers := []int{math.MinInt, -1, 0, 1, 2, 3, 4, 5, 6, 7, 8, 9, math.MaxInt}
	texts := []string{"", "a", "b", "stage", "a/", "/", "\n", "a/b", `"`, `\`, " ", "A", long(201), long(1001)}
	rnd := rand.New(rand.NewPCG(13, 14))
	number := func() int { return numbers[rnd.IntN(len(numbers))] }
	text := func() string { return texts[rnd.IntN(len(texts))] }
	for range 50000 {
		r := api.Rule{Kind: number(), Key: text()}
		if rnd.IntN(2) == 0 {
			r.To = text()
		}
		if rnd.IntN(2) == 0 {
			r.Old = text()
		}
		if rnd.IntN(2) == 0 {
			r.New = text()
		}
		e := migrate.CheckRule(r)
		s, f := migrate.PrintRule(r)
		if f != e || (s == "") != (e != api.OK) {
			t.Fatal(r, s, f, e)
		}
		if p, f := migrate.ParseRule(s); e == api.OK && (p != r || f != api.OK) {
			t.Fatal(r, s, p, f)
		}
		l, f := migrate.Run(settings("a=1 b=2"), []api.Rule{r})
		if f != e || len(l) != 0 && e != api.OK {
			t.Fatal(r, l, f, e)
		}
		b, f := migrate.InverseAll([]api.Rule{r})
		if is, g := migrate.Clean(settings("a=1 b=2"), []api.Rule{r}); e != api.OK && (f != e || g != e || len(b) != 0 || is) {
			t.Fatal(r, f, g, e)
		}
		step := api.Step{Kind: number(), Name: text(), Value: text()}
		e = migrate.CheckStep(step)
		if c, f := migrate.Do(before(), step); e != api.OK && (f != e || len(c) != 0) || len(c) > 1 {
			t.Fatal(step, c, f, e)
		}
		m := api.Move{To: api.Version{Major: number(), Early: text()}, Rules: []string{s}}
		if rnd.IntN(2) == 0 {
			m.From.Spans = []api.Span{{HasFrom: rnd.IntN(2) == 0, HasTo: rnd.IntN(2) == 0, To: api.Version{Minor: number()}}}
		}
		e = migrate.CheckMove(m)
		if w, f := migrate.Way([]api.Move{m}, api.Version{}, m.To); e != api.OK && (f != e || len(w) != 0) {
			t.Fatal(m, w, f, e)
		}
	}
}

// widen gives a list room for more, in which nothing stands.
func widen[T any](l []T) []T {
	wide := make([]T, len(l)+2)
	copy(wide, l)
	return wide[:len(l)]
}

// wipe writes zeros over a list, also behind it.
func wipe[T any](l []T) { clear(l[:cap(l)]) }

// isZero reports whether there is nothing behind a list, as far as it has room.
func isZero[T any](l []T) bool {
	behind := l[len(l):cap(l)]
	return same(behind, make([]T, len(behind)))
}

// TestG2 sees that arguments stay as they were, and that results do not lie in them.
func TestG2(t *testing.T) {
	m := before()
	m.Facts, m.Files, m.Settings, m.Services = widen(m.Facts), widen(m.Files), widen(m.Settings), widen(m.Services)
	someSteps := []api.Step{{Kind: api.StepSet, Name: "a"}, {Kind: api.StepErase, Name: "a"}, {Kind: api.StepStop, Name: "on"}}
	someRules := rules(`rename a c`, `prefix b d`)
	someMoves := func() []api.Move {
		return []api.Move{move("^1.0.0", "2.0.0", "rename a c", "prefix b d"), move("^2.0.0", "3.0.0", "map c \"1\" \"2\"")}
	}
	steps, r, moves, s := widen(someSteps), widen(someRules), widen(someMoves()), widen(settings("a=1 b=2"))
	for i := range moves {
		moves[i].Rules = widen(moves[i].Rules)
		moves[i].From.Spans = widen(moves[i].From.Spans)
	}
	clean := func(what string) {
		t.Helper()
		if !same(m, before()) || !slices.Equal(steps, someSteps) || !slices.Equal(r, someRules) || !same(moves, widen(someMoves())) || !slices.Equal(s, settings("a=1 b=2")) {
			t.Fatal(what, "changes arguments")
		}
		if !isZero(m.Facts) || !isZero(m.Files) || !isZero(m.Settings) || !isZero(m.Services) || !isZero(steps) || !isZero(r) || !isZero(moves) || !isZero(s) {
			t.Fatal(what, "writes behind arguments")
		}
		for _, m := range moves {
			if !isZero(m.Rules) || !isZero(m.From.Spans) {
				t.Fatal(what, "writes behind the lists of moves")
			}
		}
	}
	for range 2 {
		c, n, e := migrate.DoAll(m, steps)
		isList(t, "DoAll", c, changes(`set a ""`, `remove a`, `service on b/c 1 0`))
		if n != 3 || e != api.OK {
			t.Error(n, e)
		}
		wipe(c)
		clean("DoAll")
		c, _ = migrate.Do(m, steps[0])
		wipe(c)
		clean("Do")
		for _, l := range [][]api.Rule{nil, r} {
			got, e := migrate.Run(s, l)
			if len(got) != 2 || e != api.OK {
				t.Error(got, e)
			}
			wipe(got)
			clean("Run")
		}
		if is, e := migrate.Clean(s, r); !is || e != api.OK {
			t.Error(is, e)
		}
		clean("Clean")
		c, e = migrate.Changes(s, s[:1])
		isList(t, "Changes", c, changes(`unset b`))
		wipe(c)
		clean("Changes")
		back, e := migrate.InverseAll(r)
		if !slices.Equal(back, rules(`prefix d b`, `rename c a`)) || e != api.OK {
			t.Error(back, e)
		}
		wipe(back)
		clean("InverseAll")
		w, e := migrate.Way(moves, version("1.0.0"), version("3.0.0"))
		if !slices.Equal(w, []int{0, 1}) || e != api.OK {
			t.Error(w, e)
		}
		wipe(w)
		clean("Way")
		for _, to := range []string{"1.0.0", "3.0.0"} {
			got, e := migrate.Carry(s, moves, version("1.0.0"), version(to))
			if len(got) != 2 || e != api.OK {
				t.Error(got, e)
			}
			wipe(got)
			clean("Carry")
		}
	}
}

// TestG3Empty sees that nil and empty lists are the same.
func TestG3Empty(t *testing.T) {
	empty := api.Machine{Facts: []api.Setting{}, Files: []api.File{}, Settings: []api.Setting{}, Services: []api.Service{}}
	for _, m := range []api.Machine{{}, empty} {
		if c, n, e := migrate.DoAll(m, []api.Step{}); len(c) != 0 || n != 0 || e != api.OK {
			t.Error(c, n, e)
		}
		if c, e := migrate.Do(m, api.Step{Kind: api.StepErase, Name: "a"}); len(c) != 0 || e != api.OK {
			t.Error(c, e)
		}
	}
	if s, e := migrate.Run([]api.Setting{}, []api.Rule{}); len(s) != 0 || e != api.OK {
		t.Error(s, e)
	}
	if is, e := migrate.Clean([]api.Setting{}, []api.Rule{}); !is || e != api.OK {
		t.Error(is, e)
	}
	if c, e := migrate.Changes([]api.Setting{}, []api.Setting{}); len(c) != 0 || e != api.OK {
		t.Error(c, e)
	}
	if l, e := migrate.InverseAll([]api.Rule{}); len(l) != 0 || e != api.OK {
		t.Error(l, e)
	}
	if e := migrate.CheckMove(api.Move{From: api.Range{Spans: []api.Span{}}, Rules: []string{}}); e != api.OK {
		t.Error(e)
	}
	v := version("1.0.0")
	if w, e := migrate.Way([]api.Move{}, v, v); len(w) != 0 || e != api.OK {
		t.Error(w, e)
	}
	if s, e := migrate.Carry([]api.Setting{}, []api.Move{}, v, v); len(s) != 0 || e != api.OK {
		t.Error(s, e)
	}
}
