package delta_test

import (
	"math/rand/v2"
	"slices"
	"strings"
	"testing"

	"outfitter/api"
	"outfitter/delta"
	"outfitter/disk"
)

func TestP97Compose(t *testing.T) {
	const a = "0123456789"
	for _, c := range []struct{ d, e, want string }{
		{"", "", ""},
		{"0+10", "", ""},
		{"", "=abc", "=abc"},
		{"0+10", "0+10", "0+10"},
		{"0+10", "2+3", "2+3"},
		{"5+5", "2+3", "7+3"},
		{"=abcdef", "2+3", "=cde"},
		{"=abcdef", "0+6", "=abcdef"},
		// Pieces are cut at both ends of a copy.
		{"0+4 =abcd 6+4", "0+12", "0+4 =abcd 6+4"},
		{"0+4 =abcd 6+4", "1+10", "1+3 =abcd 6+3"},
		{"0+4 =abcd 6+4", "3+6", "3+1 =abcd 6+1"},
		{"0+4 =abcd 6+4", "4+4", "=abcd"},
		{"0+4 =abcd 6+4", "5+2", "=bc"},
		{"0+4 =abcd 6+4", "8+4", "6+4"},
		{"0+4 =abcd 6+4", "9+2", "7+2"},
		{"0+4 =abcd 6+4", "0+4", "0+4"},
		{"0+4 =abcd 6+4", "11+1", "9+1"},
		{"0+4 =abcd 6+4", "11+1 0+1", "9+1 0+1"},
		// What is joined then.
		{"0+4 =abcd 6+4", "0+2 2+2", "0+4"},
		{"0+4 =abcd 6+4", "=xy 4+2 =z", "=xyabz"},
		{"0+4 =abcd 6+4", "=xy 4+2 =z 3+1", "=xyabz 3+1"},
		{"0+4 =abcd 4+6", "0+4 8+6", "0+10"},
		{"5+5 0+5", "5+5 0+5", "0+10"},
		{"5+5 0+5", "0+10", "5+5 0+5"},
		{"0+2 2+2 =a =b", "0+6", "0+4 =ab"},
		{"0+2 =a =b", "=x =y", "=xy"},
	} {
		d := between(a, c.d)
		b := made(a, d.Pieces)
		e := between(b, c.e)
		f, err := delta.Compose(d, e)
		isDelta(t, c, f, err, between(a, c.want), api.OK)
		applies(t, a, made(b, e.Pieces), f)
	}
}

func TestP97ComposeErrors(t *testing.T) {
	d, e := between("0123456789", "0+4 =abcd"), between("0123abcd", "2+6")
	for i, c := range []struct {
		do   func()
		want api.Errno
	}{
		{func() {}, api.OK},
		{func() { e.OldSum = disk.SumOf("0123abce") }, api.ErrConflict},
		{func() { e.Old = 9 }, api.ErrConflict},
		{func() { d.NewSum = disk.SumOf("0123abce") }, api.ErrConflict},
		{func() { d, e = e, d }, api.ErrConflict},
		{func() { e = d }, api.ErrConflict},
		{func() { d.New = 9 }, api.ErrConflict},
		{func() { d.New = -1; e.OldSum = "" }, api.ErrRange},
		{func() { e.NewSum = ""; e.Old = 9 }, api.ErrForm},
		// Whether sums are those of texts is not to be seen without the texts.
		{func() { d.NewSum, e.OldSum = d.OldSum, d.OldSum }, api.OK},
		{func() { d.OldSum, e.NewSum = d.NewSum, d.NewSum }, api.OK},
	} {
		d, e = between("0123456789", "0+4 =abcd"), between("0123abcd", "2+6")
		c.do()
		want := api.Delta{}
		if c.want == api.OK {
			want = api.Delta{Old: 10, New: 6, OldSum: d.OldSum, NewSum: e.NewSum, Pieces: pieces("2+2 =abcd")}
		}
		f, err := delta.Compose(d, e)
		isDelta(t, i, f, err, want, c.want)
	}
}

func TestP97ComposeLarge(t *testing.T) {
	// Each copy of e takes 5000 pieces of d, which are many more than can be.
	a := "0123456789"
	d := between(a, strings.Repeat("0+1 =x ", api.MaxPieces/2))
	b := made(a, d.Pieces)
	all := "0+5000 "
	f, err := delta.Compose(d, between(b, all))
	isDelta(t, "once", f, err, d, api.OK)
	for _, text := range []string{all + all, all + "2+1", "1+1 " + all, strings.Repeat(all, 13), all + strings.Repeat("=a 0+2 ", 2000)} {
		f, err = delta.Compose(d, between(b, text))
		isDelta(t, text, f, err, api.Delta{}, api.ErrLarge)
	}
	for _, text := range []string{"=y 1+4999", "0+4999 =y"} {
		if f, err = delta.Compose(d, between(b, text)); len(f.Pieces) > api.MaxPieces || err != api.OK {
			t.Errorf("%q: %d, %d", text, len(f.Pieces), err)
		}
	}
	f, err = delta.Compose(d, between(b, "=y "+all))
	isDelta(t, "one more", f, err, api.Delta{}, api.ErrLarge)
	// They are counted when they have been joined.
	d = between(a, strings.Repeat("0+1 1+1 ", api.MaxPieces/2))
	f, err = delta.Compose(d, between(made(a, d.Pieces), strings.Repeat(all, 2)))
	isDelta(t, "joined", f, err, between(a, strings.Repeat("0+2 ", api.MaxPieces)), api.OK)
	f, err = delta.Compose(d, between(made(a, d.Pieces), strings.Repeat(all, 2)+"=x"))
	isDelta(t, "joined", f, err, api.Delta{}, api.ErrLarge)
}

// single returns pieces of a single byte that make the same.
func single(l []api.Piece) []api.Piece {
	var r []api.Piece
	for _, p := range l {
		for i := range p.Data {
			r = append(r, api.Piece{Data: p.Data[i : i+1]})
		}
		for i := range p.Long {
			r = append(r, api.Piece{At: p.At + i, Long: 1})
		}
	}
	return r
}

// joined joins the first two pieces that can be, again and again.
func joined(l []api.Piece) []api.Piece {
	l = slices.Clone(l)
	for i := 0; i+1 < len(l); {
		p, q := l[i], l[i+1]
		switch {
		case p.Data != "" && q.Data != "":
			p.Data += q.Data
		case p.Data == "" && q.Data == "" && p.At+p.Long == q.At:
			p.Long += q.Long
		default:
			i++
			continue
		}
		l = append(append(slices.Clone(l[:i]), p), l[i+2:]...)
		i = 0
	}
	return l
}

func guessPieces(rnd *rand.Rand, old int) []api.Piece {
	var l []api.Piece
	for range rnd.IntN(8) {
		if old == 0 || rnd.IntN(3) == 0 {
			l = append(l, api.Piece{Data: guess(rnd, 1+rnd.IntN(4), 20)})
			continue
		}
		at := rnd.IntN(old)
		if n := len(l); n > 0 && rnd.IntN(2) == 0 && l[n-1].Data == "" {
			at = min(old-1, l[n-1].At+l[n-1].Long)
		}
		l = append(l, api.Piece{At: at, Long: 1 + rnd.IntN(min(6, old-at))})
	}
	return l
}

// TestP97Chance holds Compose and Tidy against single bytes.
func TestP97Chance(t *testing.T) {
	rnd := rand.New(rand.NewPCG(5, 6))
	shorter := 0
	for range 6000 {
		a := guess(rnd, rnd.IntN(20), 26)
		d := between(a, show(guessPieces(rnd, len(a))))
		b := made(a, d.Pieces)
		e := between(b, show(guessPieces(rnd, len(b))))
		c := made(b, e.Pieces)

		first := single(d.Pieces)
		var l []api.Piece
		for _, p := range e.Pieces {
			if p.Data != "" {
				l = append(l, p)
			} else {
				l = append(l, first[p.At:p.At+p.Long]...)
			}
		}
		f, err := delta.Compose(d, e)
		isDelta(t, "Compose", f, err, between(a, show(joined(l))), api.OK)
		applies(t, a, c, f)

		g, err := delta.Tidy(d)
		isDelta(t, "Tidy", g, err, between(a, show(joined(d.Pieces))), api.OK)
		applies(t, a, b, g)
		if len(g.Pieces) < len(d.Pieces) {
			shorter++
		}
	}
	if shorter < 1000 {
		t.Error("too little is tried:", shorter)
	}
}

func TestP97Tidy(t *testing.T) {
	const a = "0123456789"
	for _, c := range []struct{ pieces, want string }{
		{"", ""},
		{"=a", "=a"},
		{"0+1", "0+1"},
		{"0+2 2+1", "0+3"},
		{"0+2 2+1 =d =e 5+1", "0+3 =de 5+1"},
		{"0+1 1+1 2+1 3+1 =a =b =c =d 4+1 5+1 =e =f", "0+4 =abcd 4+2 =ef"},
		{"0+2 =a 2+1", "0+2 =a 2+1"},
		{"0+2 3+1", "0+2 3+1"},
		{"0+2 1+1", "0+2 1+1"},
		{"2+2 0+2", "2+2 0+2"},
		{"0+2 0+2", "0+2 0+2"},
		{"0+2 0+2 2+2", "0+2 0+4"},
		{"0+2 2+2 2+2 4+2", "0+4 2+4"},
		{"=ab =ab", "=abab"},
	} {
		d, e := delta.Tidy(between(a, c.pieces))
		isDelta(t, c.pieces, d, e, between(a, c.want), api.OK)
	}
	d := between(a, "0+2 2+1")
	d.OldSum, d.NewSum, d.Old = "0123456789abcdef", "fedcba9876543210", 50
	want := d
	want.Pieces = pieces("0+3")
	got, e := delta.Tidy(d)
	isDelta(t, "other sums", got, e, want, api.OK)
}
