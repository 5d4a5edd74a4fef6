package pack_test

import (
	"math/rand/v2"
	"slices"
	"strings"
	"testing"

	"outfitter/api"
	"outfitter/disk"
	"outfitter/pack"
)

// TestG1Long gives long texts to all that takes one.
func TestG1Long(t *testing.T) {
	for _, piece := range []string{"0", " ", "\"", "\\", "\n", "/", "a/", "\xff", "(", "not ", top, "need b *\n", "set a \"\"\n", "file "} {
		text := strings.Repeat(piece, api.MaxText/len(piece)+1)
		for _, ahead := range []string{"", "package ", "package a 1.0.0 \"", top + "need b ", top + "bar ", base + "when ", base + "needs ", base + "file ", base + "file data a " + zero + " ", base + "service ", base + "step ", base + "move ", base + "set a \""} {
			whole := ahead + text[:api.MaxText-len(ahead)-1] + "\n"
			if p, _, e := pack.Parse(whole); !isNone(p) || e == api.OK {
				t.Errorf("%q, %q: %d", ahead, piece, e)
			}
			if p, n, e := pack.Parse(whole + "x"); !isNone(p) || n != 0 || e != api.ErrLarge {
				t.Errorf("%q, %q: %d, %d", ahead, piece, n, e)
			}
		}
		if p, e := pack.Open(seal(body(text)), text); !isNone(p) || e != api.ErrForm {
			t.Errorf("%q: %d", piece, e)
		}
		if p, e := pack.Open(seal(body(text, text[:100])), "secret"); !isNone(p) || e == api.OK {
			t.Errorf("%q: %d", piece, e)
		}
		if s, e := pack.Take(bundle(t, some(), ""), text); s != "" || e != api.ErrNone {
			t.Errorf("%q: %d", piece, e)
		}
		if c, e := pack.Component(some(), text); !same(c, api.Component{}) || e != api.ErrNone {
			t.Errorf("%q: %d", piece, e)
		}
		if l, e := pack.Closed(some(), []string{text}); len(l) != 0 || e != api.ErrNone {
			t.Errorf("%q: %d", piece, e)
		}
		for i, p := range []api.Package{{Name: text}, {Name: "a", Title: text + "\n"}, small(part("a", text)), small(part(text)), small(having("a", setting(text, text))), small(having("a", data(text, "")))} {
			if e := pack.Check(p); e == api.OK {
				t.Errorf("%q: %d", piece, i)
			}
		}
	}
}

// TestG1Many has lists far beyond what can be needed.
func TestG1Many(t *testing.T) {
	const many = 50000
	names := make([]string, many)
	for i := range names {
		names[i] = numbered(i)
	}
	for i, c := range []struct {
		do   func(p *api.Package)
		want api.Errno
	}{
		{func(p *api.Package) { p.Needs = make([]api.Need, many) }, api.ErrLarge},
		{func(p *api.Package) { p.Components = make([]api.Component, many) }, api.ErrLarge},
		{func(p *api.Package) { p.Components[0].Needs = names }, api.ErrNone},
		{func(p *api.Package) { p.Components[0].Needs = append(slices.Clone(names), names[0]) }, api.ErrTwice},
		{func(p *api.Package) { p.Components[0].Steps = make([]api.Step, many) }, api.ErrKind},
		{func(p *api.Package) { p.Moves = make([]api.Move, many) }, api.ErrLarge},
		{func(p *api.Package) { p.Moves = []api.Move{{Rules: make([]string, many)}} }, api.ErrLarge},
		{func(p *api.Package) {
			for _, name := range names {
				p.Components[0].Items = append(p.Components[0].Items, data(strings.Repeat("a/", 90)+name, ""))
			}
		}, api.OK},
		{func(p *api.Package) {
			for _, name := range names {
				p.Components[0].Items = append(p.Components[0].Items, service(name, "none"))
			}
		}, api.ErrNone},
	} {
		p := small(part("a"))
		c.do(&p)
		check(t, i, p, c.want)
		if c.want != api.OK {
			continue
		}
		q := p
		q.Name = "other"
		t.Run("Clashes", func(t *testing.T) {
			if l, e := pack.Clashes([]api.Package{p, q}, [][]string{{"a"}, {"a"}}); len(l) != many || e != api.OK {
				t.Error(len(l), e)
			}
		})
		if s, e := pack.Print(p); s != "" || e != api.ErrLarge {
			t.Error(len(s), e)
		}
	}
	if l, e := pack.Closed(some(), names); len(l) != 0 || e != api.ErrNone {
		t.Error(l, e)
	}
	if l, e := pack.Closed(some(), slices.Repeat([]string{"core"}, many)); len(l) != 0 || e != api.ErrTwice {
		t.Error(l, e)
	}
}

// TestG1Within has a condition that holds itself.
func TestG1Within(t *testing.T) {
	c := api.Cond{Kind: api.CondAll, Args: make([]api.Cond, 1)}
	c.Args[0] = c
	p := some()
	p.Components[3].When = c
	check(t, "a condition within itself", p, api.ErrLarge)
	for _, e := range everyError(p) {
		if e != api.ErrLarge {
			t.Error(e)
		}
	}
}

// everyError calls all functions with a package.
func everyError(p api.Package) []api.Errno {
	_, a := pack.Component(p, "core")
	_, b := pack.Closed(p, nil)
	_, c := pack.Defaults(p, nil, nil)
	_, d := pack.Allowed(p, nil, nil)
	_, e := pack.Items(p, nil)
	_, f := pack.Steps(p, nil)
	_, g := pack.Clashes([]api.Package{p}, [][]string{nil})
	_, h := pack.Print(p)
	_, i := pack.Bundle(p, "")
	return []api.Errno{a, b, c, d, e, f, g, h, i}
}

// TestG1Deep has components that need each other in as many ways as there are.
func TestG1Deep(t *testing.T) {
	var l []api.Component
	var names []string
	for i := range api.MaxComponents {
		c := part(numbered(i), names...)
		c.Steps = []api.Step{{Kind: api.StepUnset, Name: numbered(i)}}
		l, names = append(l, c), append(names, numbered(i))
	}
	slices.Reverse(l)
	p := small(l...)
	steps, e := pack.Steps(p, []string{numbered(api.MaxComponents - 1)})
	if len(steps) != api.MaxComponents || e != api.OK {
		t.Fatal(len(steps), e)
	}
	for i, s := range steps {
		if s.Name != numbered(i) {
			t.Error(i, s)
		}
	}
}

// TestG1Chance gives texts made by chance: what is read is printed, and read again.
func TestG1Chance(t *testing.T) {
	l := strings.Split("package a 1.0.0 \"\"\n|package |need |bar |component |when |needs |file |data |set |service |step |move |rule |component a \"\"\n|component b \"\" default\n|a|b|a/b| |\"\"|\"x\"\n|\"|\\|\n|1|1.0.0|*\n|* 1.0.0\n|always\n|has a\n|a\n|b c\n|"+zero+" 0\n|runs\n|auto\n|set a \"\"\n|step 1 a \"\"\n|file data a "+zero+" 0\n", "|")
	rnd := rand.New(rand.NewPCG(11, 12))
	read := 0
	for range 200000 {
		text := ""
		if rnd.IntN(4) > 0 {
			text = base
		}
		for range 1 + rnd.IntN(9) {
			text += l[rnd.IntN(len(l))]
		}
		p, n, e := pack.Parse(text)
		if e != api.OK {
			if !isNone(p) || n < 0 || n > strings.Count(text, "\n") {
				t.Fatalf("Parse(%q): %v, %d, %d", text, p, n, e)
			}
			// The lines ahead of a wrong one can be read.
			if first := strings.Join(strings.SplitAfter(text, "\n")[:n], ""); n > 0 {
				if _, k, f := pack.Parse(first); f == api.ErrSyntax {
					t.Fatalf("Parse(%q): %d, but %d", text, n, k)
				}
			}
			continue
		}
		read++
		s, f := pack.Print(p)
		if q, k, g := pack.Parse(s); n != 0 || f != api.OK || k != 0 || g != api.OK || !same(q, p) {
			t.Fatalf("Parse(%q): %v, %d, %d", text, p, f, g)
		}
	}
	if read < 1000 {
		t.Error("too little is read:", read)
	}
}

// TestG1Bytes changes bundles, and seals them again: what is opened has the contents that List tells.
func TestG1Bytes(t *testing.T) {
	rnd := rand.New(rand.NewPCG(13, 14))
	whole := body(someText, "\x00app", "a\n", "")
	opened := 0
	for range 40000 {
		b := []byte(whole)
		for range 1 + rnd.IntN(3) {
			at := rnd.IntN(len(b))
			switch rnd.IntN(4) {
			case 0:
				b[at] ^= 1 << rnd.IntN(8)
			case 1:
				b = slices.Delete(b, at, at+1)
			case 2:
				b = slices.Insert(b, at, byte(rnd.IntN(256)))
			case 3:
				b[at] = b[rnd.IntN(len(b))]
			}
		}
		b = seal(string(b))
		p, e := pack.Open(b, "secret")
		l, f := pack.List(b)
		if e != f || e != api.OK && (!isNone(p) || len(l) != 0) {
			t.Fatalf("%q: %v, %d, %v, %d", b, p, e, l, f)
		}
		if e != api.OK {
			continue
		}
		opened++
		for _, c := range l {
			if s, g := pack.Take(b, c.Sum); len(s) != c.Length || disk.SumOf(s) != c.Sum || g != api.OK {
				t.Fatalf("%q: %v, %q, %d", b, c, s, g)
			}
		}
		// A text can tell a thing in another way than Print.
		again, g := pack.Bundle(p, "secret")
		if q, h := pack.Open(again, "secret"); g != api.OK || h != api.OK || !same(q, p) {
			t.Fatalf("%q: %v, %d, %d", b, p, g, h)
		}
	}
	if opened < 100 {
		t.Error("too little is opened:", opened)
	}
}

// roomy gives each list of a package room for more, in which something stands.
func roomy(p api.Package) api.Package {
	p.Needs, p.Bars = widen(p.Needs), widen(p.Bars)
	for _, l := range [][]api.Need{p.Needs, p.Bars} {
		for i := range l {
			l[i].Range.Spans = widen(l[i].Range.Spans)
		}
	}
	p.Components, p.Moves = widen(p.Components), widen(p.Moves)
	for i := range p.Components {
		c := &p.Components[i]
		c.Needs, c.Items, c.Steps, c.When.Args = widen(c.Needs), widen(c.Items), widen(c.Steps), widen(c.When.Args)
	}
	for i := range p.Moves {
		p.Moves[i].Rules, p.Moves[i].From.Spans = widen(p.Moves[i].Rules), widen(p.Moves[i].From.Spans)
	}
	return p
}

func widen[T any](l []T) []T {
	wide := make([]T, len(l)+2)
	copy(wide, l)
	return wide[:len(l)]
}

// wipe writes zeros over a list, also behind it.
func wipe[T any](l []T) { clear(l[:cap(l)]) }

// wipeAll writes zeros over all lists in a component.
func wipeAll(c api.Component) {
	for _, arg := range c.When.Args {
		wipe(arg.Args)
	}
	wipe(c.When.Args)
	wipe(c.Needs)
	wipe(c.Items)
	wipe(c.Steps)
}

// isClean reports whether a package that is roomy is as some, and has nothing behind its lists.
func isClean(p api.Package) bool {
	clean := same(p, some()) && isZero(p.Needs) && isZero(p.Bars) && isZero(p.Moves)
	for _, c := range p.Components {
		clean = clean && isZero(c.Needs) && isZero(c.Items) && isZero(c.Steps) && isZero(c.When.Args)
	}
	for _, m := range p.Moves {
		clean = clean && isZero(m.Rules) && isZero(m.From.Spans)
	}
	return clean && isZero(p.Components)
}

// isZero reports whether there is nothing behind a list, as far as it has room.
func isZero[T any](l []T) bool {
	behind := l[len(l):cap(l)]
	return same(behind, make([]T, len(behind)))
}

// TestG2 sees that arguments stay as they were, and that results do not lie in them, nor in each other.
func TestG2(t *testing.T) {
	p := roomy(some())
	other := roomy(some())
	other.Name = "other"
	chosen := widen([]string{"server", "plain"})
	l := widen([]api.Package{p, other})
	both := widen([][]string{chosen, chosen})
	clean := func(what string) {
		t.Helper()
		if !isClean(p) || !slices.Equal(chosen, []string{"server", "plain"}) || !isZero(chosen) || !isZero(l) || !isZero(both) || !same(l[0], p) || !same(l[1], other) {
			t.Fatal(what, "changes its arguments")
		}
	}
	for _, name := range []string{"core", "server", "words", "plain"} {
		c, _ := pack.Component(p, name)
		again, _ := pack.Component(p, name)
		wipeAll(c)
		clean("Component")
		if want, _ := pack.Component(some(), name); !same(again, want) {
			t.Error(again)
		}
	}
	for i := range 2 {
		closed, _ := pack.Closed(p, chosen)
		defaults, _ := pack.Defaults(p, nil, nil)
		allowed, _ := pack.Allowed(p, nil, nil)
		items, _ := pack.Items(p, chosen)
		steps, _ := pack.Steps(p, chosen)
		clashes, _ := pack.Clashes(l, both)
		if len(closed) != 4 || len(defaults) != 2 || len(allowed) != 3 || len(items) != 8 || len(steps) != 6 || len(clashes) != 7 {
			t.Error(i, closed, defaults, allowed, items, steps, clashes)
		}
		clean("some function")
		for _, names := range [][]string{closed, defaults, allowed} {
			wipe(names)
		}
		wipe(items)
		wipe(steps)
		wipe(clashes)
		clean("what is written over a result")
	}
}

// TestG2Bundle sees that bundles, and what is opened from them, share nothing.
func TestG2Bundle(t *testing.T) {
	p := roomy(some())
	b := bundle(t, p, "secret")
	again := bundle(t, p, "secret")
	kept := slices.Clone(b)
	q, e := pack.Open(b, "secret")
	r, f := pack.Open(b, "secret")
	l, g := pack.List(b)
	s, h := pack.Take(b, disk.SumOf("\x00app"))
	if e != api.OK || f != api.OK || g != api.OK || h != api.OK {
		t.Fatal(e, f, g, h)
	}
	want, _ := pack.List(again)
	if !isClean(p) || !slices.Equal(b, kept) || !slices.Equal(again, kept) {
		t.Error("arguments are changed")
	}
	wipe(b)
	if !same(q, some()) || !same(l, want) || s != "\x00app" || !slices.Equal(again, kept) {
		t.Error("results lie in a bundle")
	}
	for _, c := range q.Components {
		wipeAll(c)
	}
	wipe(q.Components)
	wipe(q.Moves)
	wipe(l[0].Files)
	wipe(l)
	if !same(r, some()) {
		t.Error(r)
	}
	// What is behind a bundle is not looked at.
	roomyBytes := append(again, "behind"...)[:len(again)]
	if q, e := pack.Open(roomyBytes, "secret"); !same(q, some()) || e != api.OK {
		t.Error(q, e)
	}
	if string(roomyBytes[:cap(roomyBytes)][len(again):len(again)+6]) != "behind" {
		t.Error("what is behind a bundle is changed")
	}
}

// TestG2Lists sees that no list of a result reaches into another one.
func TestG2Lists(t *testing.T) {
	p, _, e := pack.Parse(someText)
	if e != api.OK {
		t.Fatal(e)
	}
	for i := range p.Components {
		c := &p.Components[i]
		_ = append(c.Needs, "x")
		_ = append(c.Items, api.Item{Kind: 1})
		_ = append(c.Steps, api.Step{Kind: 1})
		_ = append(c.When.Args, api.Cond{Kind: 1})
	}
	for _, m := range p.Moves {
		_ = append(m.Rules, "x")
		_ = append(m.From.Spans, api.Span{HasTo: true})
	}
	for _, n := range slices.Concat(p.Needs, p.Bars) {
		_ = append(n.Range.Spans, api.Span{HasTo: true})
	}
	if !same(p, bare(some())) {
		t.Error(p)
	}
	l, _ := pack.List(bundle(t, some(), ""))
	for _, c := range l {
		_ = append(c.Files, "x")
	}
	if again, _ := pack.List(bundle(t, some(), "")); !same(l, again) {
		t.Error(l)
	}
}

// TestG3Empty sees that nil and empty lists are the same.
func TestG3Empty(t *testing.T) {
	p := small(part("a"))
	empty := small(api.Component{Name: "a", When: api.Cond{Kind: api.CondTrue, Args: []api.Cond{}}, Needs: []string{}, Items: []api.Item{}, Steps: []api.Step{}})
	empty.Needs, empty.Bars, empty.Moves = []api.Need{}, []api.Need{}, []api.Move{}
	check(t, "empty", empty, api.OK)
	text, _ := pack.Print(p)
	if s, e := pack.Print(empty); s != text || e != api.OK {
		t.Error(s, e)
	}
	if l, e := pack.Closed(empty, []string{}); len(l) != 0 || e != api.OK {
		t.Error(l, e)
	}
	if l, e := pack.Clashes([]api.Package{}, nil); len(l) != 0 || e != api.OK {
		t.Error(l, e)
	}
	if l, e := pack.Clashes([]api.Package{empty}, [][]string{{}}); len(l) != 0 || e != api.OK {
		t.Error(l, e)
	}
	empty.Components = []api.Component{}
	check(t, "no components", empty, api.ErrEmpty)
	for _, b := range [][]byte{nil, {}} {
		refuse(t, "nothing", b, api.ErrSyntax)
	}
}

// TestG3First sees that all functions with a package look at it ahead of all else, and that there is nothing beside an error.
func TestG3First(t *testing.T) {
	for _, f := range faults() {
		p := some()
		f.do(&p)
		for i, e := range everyError(p) {
			if e != f.want {
				t.Errorf("%s: %d: %d", f.what, i, e)
			}
		}
	}
}
