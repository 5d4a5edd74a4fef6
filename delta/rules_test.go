package delta_test

import (
	"math"
	"math/rand/v2"
	"slices"
	"strconv"
	"strings"
	"testing"

	"outfitter/api"
	"outfitter/delta"
)

// hard returns texts as long as can be, the parts of which stand at many places.
func hard() []string {
	rnd := rand.New(rand.NewPCG(17, 18))
	one, two := "a", "ab"
	for len(two) < api.MaxData {
		one, two = two, two+one
	}
	half := api.MaxData / 2
	return []string{
		strings.Repeat("a", api.MaxData),
		strings.Repeat("ab", half),
		strings.Repeat("a", half) + strings.Repeat("b", half),
		strings.Repeat("a", half) + "b" + strings.Repeat("a", half-1),
		two[:api.MaxData],
		strings.Repeat(strings.Repeat("a", 255)+"b", api.MaxData/256),
		guess(rnd, api.MaxData, 2),
		guess(rnd, api.MaxData, 250),
		strings.Repeat("abcdefgh\n", api.MaxLines),
	}
}

func TestG1Hard(t *testing.T) {
	l := hard()
	for i, a := range l {
		for j, b := range l[:i+1] {
			t.Run("Make", func(t *testing.T) {
				d, e := delta.Make(a, b)
				if e == api.ErrLarge {
					return
				}
				if e != api.OK {
					t.Fatal(i, j, e)
				}
				applies(t, a, b, d)
				back, e := delta.Back(a, d)
				if e == api.OK {
					applies(t, b, a, back)
					both, e := delta.Compose(d, back)
					if e == api.OK {
						applies(t, a, a, both)
					}
				}
				text, e := delta.Print(d)
				again, f := delta.Parse(text)
				if e != api.OK || f != api.OK || !same(again, d) {
					t.Error(i, j, e, f)
				}
			})
		}
	}
}

func TestG1Lines(t *testing.T) {
	rnd := rand.New(rand.NewPCG(19, 20))
	l := []string{strings.Repeat("a\n", api.MaxLines), strings.Repeat("a\nb\n", api.MaxLines/2), strings.Repeat("\n", api.MaxLines), text(guess(rnd, api.MaxLines, 2)), text(guess(rnd, api.MaxLines, 26))}
	many := ""
	for i := range api.MaxLines {
		many += strconv.Itoa(i*7%api.MaxLines) + "\n"
	}
	l = append(l, many, hard()[0], strings.Repeat(strings.Repeat("a", 64)+"\n", api.MaxLines))
	for _, base := range l {
		for _, a := range l {
			t.Run("Lines and Merge", func(t *testing.T) {
				pairs, e := delta.Lines(base, a)
				if e != api.OK || base == a && len(pairs) != strings.Count(a+"\n", "\n")-strings.Count(a[len(a)-1:], "\n") {
					t.Error(len(pairs), e)
				}
				for _, b := range l[:3] {
					if _, _, e := delta.Merge(base, a, b); e != api.OK && e != api.ErrLarge {
						t.Error(e)
					}
				}
			})
		}
	}
}

func TestG1Ways(t *testing.T) {
	// Each step leads to the next version for nothing, up or down.
	sizes := slices.Repeat([]int{1000000000}, 200)
	for _, way := range []int{1, -1} {
		var l []api.Way
		var want []int
		from, to := 0, 199
		if way < 0 {
			from, to = to, from
		}
		for at := from; at != to; at += way {
			l = append(l, api.Way{From: at, To: at + way})
			want = append(want, at+way)
		}
		for range 4 {
			l = append(l, l[:199]...)
		}
		t.Run("Best", func(t *testing.T) {
			steps, cost, e := delta.Best(l, sizes, from, to)
			if !slices.Equal(steps, want) || cost != 0 || e != api.OK {
				t.Error(steps, cost, e)
			}
			steps, cost, e = delta.Best(l, sizes, -1, to)
			if !slices.Equal(steps, []int{to}) || cost != 1000000000 || e != api.OK {
				t.Error(steps, cost, e)
			}
		})
	}
	rnd := rand.New(rand.NewPCG(21, 22))
	for range 20 {
		l := make([]api.Way, api.MaxWays)
		for i := range l {
			l[i] = api.Way{From: rnd.IntN(200), To: rnd.IntN(200), Cost: rnd.IntN(1000)}
			if l[i].To == l[i].From {
				l[i].To = (l[i].From + 1) % 200
			}
		}
		t.Run("Best", func(t *testing.T) {
			from, to := rnd.IntN(201)-1, rnd.IntN(200)
			steps, _, e := delta.Best(l, sizes, from, to)
			if e != api.OK || from != to && steps[len(steps)-1] != to {
				t.Error(steps, e)
			}
		})
	}
}

// TestG1Long has arguments far beyond what can be needed.
func TestG1Long(t *testing.T) {
	const many = 1 << 20
	long := strings.Repeat("a", 1<<24)
	if n, e := delta.CheckSteps(make([]api.Piece, many), 0); n != 0 || e != api.ErrLarge {
		t.Error(n, e)
	}
	if n, e := delta.CheckSteps(slices.Repeat([]api.Piece{{Data: long}}, api.MaxPieces), 0); n != 0 || e != api.ErrLarge {
		t.Error(n, e)
	}
	if e := delta.Check(api.Delta{OldSum: long, NewSum: long}); e != api.ErrForm {
		t.Error(e)
	}
	if e := delta.Check(api.Delta{Old: math.MinInt, New: math.MaxInt}); e != api.ErrRange {
		t.Error(e)
	}
	if d, e := delta.Make(long, long); e != api.ErrLarge {
		t.Error(d, e)
	}
	if s, e := delta.Apply(long, between("", "")); s != "" || e != api.ErrSum {
		t.Error(s, e)
	}
	if d, e := delta.Parse(long); e != api.ErrLarge {
		t.Error(d, e)
	}
	if l, e := delta.Lines(long, ""); len(l) != 0 || e != api.ErrLarge {
		t.Error(l, e)
	}
	if s, n, e := delta.Merge("", "", long); s != "" || n != 0 || e != api.ErrLarge {
		t.Error(s, n, e)
	}
	if e := delta.CheckWays(make([]api.Way, many), nil); e != api.ErrLarge {
		t.Error(e)
	}
	if e := delta.CheckWays(nil, make([]int, many)); e != api.ErrLarge {
		t.Error(e)
	}
	// As many pieces as a text can have, and far more than it tells.
	body := "OFD1\x00\x00" + sums + "\xf8\xff\x29" + strings.Repeat("\x00\x00\x00", 688120)
	t.Run("Parse", func(t *testing.T) {
		for text, want := range map[string]api.Errno{sealed(body): api.ErrLarge, body: api.ErrSyntax} {
			if d, e := delta.Parse(text); e != want {
				t.Error(len(d.Pieces), e, want)
			}
		}
	})
}

// TestG1Chance has bytes and pieces of any kind.
func TestG1Chance(t *testing.T) {
	rnd := rand.New(rand.NewPCG(23, 24))
	numbers := []int{math.MinInt, math.MinInt + 1, -1, 0, 1, 2, 5, 9, 10, 65535, 65536, 65537, math.MaxInt - 1, math.MaxInt}
	number := func() int { return numbers[rnd.IntN(len(numbers))] }
	for range 20000 {
		var l []api.Piece
		for range rnd.IntN(4) {
			l = append(l, api.Piece{At: number(), Long: number(), Data: guess(rnd, rnd.IntN(2), 2)})
		}
		d := between("0123456789", "0+10")
		d.Pieces = l
		d.Old, d.New = number(), number()
		n, e := delta.CheckSteps(l, d.Old)
		if e != api.OK && n != 0 {
			t.Fatal(l, n, e)
		}
		f := delta.Check(d)
		if e != api.OK && f == api.OK {
			t.Fatal(l, e)
		}
		if _, e := delta.Apply("0123456789", d); f != api.OK && e != f {
			t.Fatal(l, e)
		}
		w := []api.Way{{From: number(), To: number(), Cost: number()}}
		if _, _, e := delta.Best(w, []int{number(), number()}, number(), number()); e != api.ErrRange && e != api.ErrNone && e != api.ErrForm && e != api.OK {
			t.Fatal(w, e)
		}
		text := "OFD1" + guess(rnd, rnd.IntN(60), 3)
		text = strings.NewReplacer("a", "\x00", "b", "\x01", "c", string([]byte{byte(rnd.IntN(256))})).Replace(text)
		if d, e := delta.Parse(text); e == api.OK || !same(d, api.Delta{}) {
			t.Fatalf("%q: %d", text, e)
		}
	}
}

// widen gives a list room for more, in which nothing stands.
func widen[T any](l []T) []T {
	wide := make([]T, len(l)+2)
	copy(wide, l)
	return wide[:len(l)]
}

// wipe writes zeros over a list, also behind it.
func wipe[T any](l []T) { clear(l[:cap(l)]) }

// isZero reports whether there is nothing behind a list, as far as it has room.
func isZero[T any](l []T) bool {
	behind := l[len(l):cap(l)]
	return same(behind, make([]T, len(behind)))
}

// TestG2 sees that arguments stay as they were, and that results do not lie in them.
func TestG2(t *testing.T) {
	const a, textD, textE = "0123456789", "0+4 =ab =cd 6+1 7+3", "0+2 =x 2+3 5+7 =y =z"
	d := between(a, textD)
	b := made(a, d.Pieces)
	e := between(b, textE)
	d.Pieces, e.Pieces = widen(d.Pieces), widen(e.Pieces)
	l, sizes := widen(ways("0>1:5 1>2:5")), widen([]int{100, 90, 80})
	clean := func(what string) {
		t.Helper()
		if show(d.Pieces) != textD || show(e.Pieces) != textE || !slices.Equal(l, ways("0>1:5 1>2:5")) || !slices.Equal(sizes, []int{100, 90, 80}) {
			t.Fatal(what, "changes arguments")
		}
		if !isZero(d.Pieces) || !isZero(e.Pieces) || !isZero(l) || !isZero(sizes) {
			t.Fatal(what, "writes behind arguments")
		}
	}
	for range 2 {
		f, err := delta.Compose(d, e)
		isDelta(t, "Compose", f, err, between(a, "0+2 =x 2+2 =abcd 6+4 =yz"), api.OK)
		g, err := delta.Tidy(d)
		isDelta(t, "Tidy", g, err, between(a, "0+4 =abcd 6+4"), api.OK)
		h, err := delta.Tidy(between(a, "0+4"))
		isDelta(t, "Tidy", h, err, between(a, "0+4"), api.OK)
		back, err := delta.Back(a, d)
		isDelta(t, "Back", back, err, between(b, "="+a), api.OK)
		steps, cost, err := delta.Best(l, sizes, 0, 2)
		if !slices.Equal(steps, []int{1, 2}) || cost != 10 || err != api.OK {
			t.Error(steps, cost, err)
		}
		text, _ := delta.Print(d)
		read, err := delta.Parse(text)
		isDelta(t, "Parse", read, err, between(a, textD), api.OK)
		pairs, _ := delta.Lines("a\nb\n", "b\n")
		if !slices.Equal(pairs, [][2]int{{1, 0}}) {
			t.Error(pairs)
		}
		clean("some function")
		for _, x := range []api.Delta{f, g, h, back, read} {
			wipe(x.Pieces)
		}
		wipe(steps)
		wipe(pairs)
		clean("what is written over a result")
	}
	same := between(a, "0+4 =ab 6+4")
	tidy, _ := delta.Tidy(same)
	wipe(tidy.Pieces)
	all, _ := delta.Compose(same, between(made(a, same.Pieces), "0+10"))
	wipe(all.Pieces)
	if show(same.Pieces) != "0+4 =ab 6+4" {
		t.Error("a result lies in an argument")
	}
}

// TestG3Empty sees that nil and empty lists are the same.
func TestG3Empty(t *testing.T) {
	d := between("", "")
	for _, l := range [][]api.Piece{nil, {}} {
		d.Pieces = l
		if n, e := delta.CheckSteps(l, 0); n != 0 || e != api.OK {
			t.Error(n, e)
		}
		got, e := delta.Compose(d, d)
		isDelta(t, "Compose", got, e, d, api.OK)
		got, e = delta.Tidy(d)
		isDelta(t, "Tidy", got, e, d, api.OK)
		text, e := delta.Print(d)
		if len(text) != 4+2+16+1+8 || e != api.OK {
			t.Error(text, e)
		}
		applies(t, "", "", d)
	}
	if e := delta.CheckWays([]api.Way{}, []int{}); e != api.OK {
		t.Error(e)
	}
	if steps, cost, e := delta.Best([]api.Way{}, []int{5}, -1, 0); !slices.Equal(steps, []int{0}) || cost != 5 || e != api.OK {
		t.Error(steps, cost, e)
	}
}
