package ver_test

import (
	"math/rand/v2"
	"reflect"
	"strings"
	"testing"

	"outfitter/api"
	"outfitter/ver"
)

// TestG1Endless gives conditions that hold themselves.
func TestG1Endless(t *testing.T) {
	loop := make([]api.Cond, 1)
	loop[0] = cond(api.CondNot, always())
	loop[0].Args = loop
	wide := make([]api.Cond, 2)
	wide[0], wide[1] = cond(api.CondAll, wide...), cond(api.CondAny, wide...)
	wide[0].Args, wide[1].Args = wide, wide
	for _, c := range []api.Cond{loop[0], wide[0], cond(api.CondAll, many(1_000_000, always())...), nested(1_000_000, always())} {
		if e := ver.CheckCond(c); e != api.ErrLarge {
			t.Error(e)
		}
		if _, e := ver.PrintCond(c); e != api.ErrLarge {
			t.Error(e)
		}
		if _, e := ver.Names(c); e != api.ErrLarge {
			t.Error(e)
		}
		if _, e := ver.Holds(c, nil, nil); e != api.ErrLarge {
			t.Error(e)
		}
		if _, _, e := ver.Always(c, nil); e != api.ErrLarge {
			t.Error(e)
		}
	}
}

// TestG1Long gives long texts to all that reads.
func TestG1Long(t *testing.T) {
	for _, piece := range []string{"0", ".", "-", "a", "/", "(", "not ", "1.0.0, ", "\"", "\\", "\xff"} {
		text := strings.Repeat(piece, 1<<20)
		if ver.IsName(text) || ver.IsPath(text) || ver.IsValue(text) {
			t.Errorf("%q", piece)
		}
		if _, e := ver.Parse(text); e != api.ErrSyntax {
			t.Errorf("%q: %d", piece, e)
		}
		if _, e := ver.Parse("1.0.0-" + text); e != api.ErrForm {
			t.Errorf("%q: %d", piece, e)
		}
		if _, e := ver.ParseRange(text); e != api.ErrLarge {
			t.Errorf("%q: %d", piece, e)
		}
		if _, at, e := ver.ParseCond(text); at != 0 || e != api.ErrLarge {
			t.Errorf("%q: %d at %d", piece, e, at)
		}
		for _, v := range []api.Version{{Early: text}, {Major: -1, Early: text}} {
			if ver.Check(v) == api.OK {
				t.Errorf("%q", piece)
			}
		}
	}
}

// pieces are what texts are made of that come close to what can be read.
const pieces = "always|fact |setting |has |version |in |not |(|)|=|and |or |\"|\\|a|b/c|os|1.0.0|^1.0.0|>=|<| |, |\t|0|.|-|-rc.1|*|none|~|\n|\xff|999999|2.0.0"

// TestG1Chance gives texts made by chance: what is read is right and printed again, else it is zero.
func TestG1Chance(t *testing.T) {
	l := strings.Split(pieces, "|")
	rnd := rand.New(rand.NewPCG(5, 6))
	for range 200000 {
		var text string
		for range 1 + rnd.IntN(9) {
			text += l[rnd.IntN(len(l))]
		}
		v, e := ver.Parse(text)
		if s, f := ver.Print(v); e == api.OK && (s != text || f != api.OK) || e != api.OK && v != (api.Version{}) {
			t.Fatalf("Parse(%q): %v, %d", text, v, e)
		}
		r, e := ver.ParseRange(text)
		if e == api.OK {
			s := printRange(t, r)
			if again := printRange(t, parseRange(t, s)); again != s {
				t.Fatalf("ParseRange(%q): %q, %q", text, s, again)
			}
		} else if len(r.Spans) != 0 {
			t.Fatalf("ParseRange(%q): %v, %d", text, r, e)
		}
		c, at, e := ver.ParseCond(text)
		if e == api.OK {
			s, f := ver.PrintCond(c)
			if f != api.OK || !same(parseCond(t, s), c) {
				t.Fatalf("ParseCond(%q): %q, %d", text, s, f)
			}
		} else if !same(c, api.Cond{}) || at < 0 || at > len(text) || at > 0 && e != api.ErrSyntax {
			t.Fatalf("ParseCond(%q): %v, %d, %d", text, c, at, e)
		}
	}
}

// TestG1Places: of a text that cannot be read, what is ahead of the place could go on.
func TestG1Places(t *testing.T) {
	l := strings.Split(pieces, "|")
	rnd := rand.New(rand.NewPCG(7, 8))
	for range 100000 {
		var text string
		for range 1 + rnd.IntN(7) {
			text += l[rnd.IntN(len(l))]
		}
		_, at, e := ver.ParseCond(text)
		if e != api.ErrSyntax || at == 0 {
			continue
		}
		head := text[:at]
		_, place, f := ver.ParseCond(head)
		whole := f != api.ErrSyntax || place == 0
		if !whole && place != len(head) {
			t.Fatalf("ParseCond(%q): %d, but %q: %d", text, at, head, place)
		}
	}
}

// TestG2 sees that arguments stay as they were, and that results do not lie in them, nor in each other.
func TestG2(t *testing.T) {
	rest := both(major(7), major(8))
	room := []api.Span{to(major(1)), both(major(2), major(4)), rest}
	a := api.Range{Spans: room[:2]}
	b := api.Range{Spans: []api.Span{both(major(0), major(3))}}
	c, e := ver.Common(a, b)
	if e != api.OK || len(c.Spans) != 2 {
		t.Fatal(c, e)
	}
	all, e := ver.Common(a, spans(api.Span{}))
	if e != api.OK || len(all.Spans) != 2 {
		t.Fatal(all, e)
	}
	c.Spans[0], c.Spans[1] = api.Span{}, api.Span{}
	all.Spans[0], all.Spans[1] = api.Span{}, api.Span{}
	if room[0] != to(major(1)) || room[1] != both(major(2), major(4)) || room[2] != rest || b.Spans[0] != both(major(0), major(3)) {
		t.Error(room, b)
	}

	text := "(has a and (has b or has b) and (has b or has b))"
	x, y := parseCond(t, text), parseCond(t, text)
	x.Args[1].Args[0].Name = "c"
	_ = append(x.Args[1].Args, always())
	_ = append(x.Args, always())
	if x.Args[2].Args[0].Name != "b" || y.Args[1].Args[0].Name != "b" || !same(y, parseCond(t, text)) {
		t.Error(x, y)
	}

	names, _ := ver.Names(y)
	names[0] = ""
	list := []api.Version{major(3), major(1), major(2)}
	ver.Greatest(spans(api.Span{}), list)
	domain := []api.Domain{{Name: "b", Setting: true, Values: []string{"y", "x"}}, {Name: "a", Setting: true, Absent: true}}
	kept := []api.Domain{{Name: "b", Setting: true, Values: []string{"y", "x"}}, {Name: "a", Setting: true, Absent: true}}
	if _, _, e := ver.Always(y, domain); e != api.OK {
		t.Error(e)
	}
	if !same(y, parseCond(t, text)) || !reflect.DeepEqual(domain, kept) || list[0] != major(3) || list[1] != major(1) {
		t.Error(y, domain, list)
	}
}
