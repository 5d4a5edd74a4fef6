package delta_test

import (
	"math/rand/v2"
	"strings"
	"testing"

	"outfitter/api"
	"outfitter/delta"
)

func makes(t *testing.T, a, b, want string) {
	t.Helper()
	wanted := between(a, want)
	if made(a, wanted.Pieces) != b {
		t.Fatalf("%q does not make %q", want, b)
	}
	d, e := delta.Make(a, b)
	isDelta(t, "Make of "+a+" and "+b, d, e, wanted, api.OK)
	applies(t, a, b, d)
}

func TestP96Make(t *testing.T) {
	for _, c := range []struct{ a, b, want string }{
		{"", "", ""},
		{"abc", "", ""},
		{"", "abc", "=abc"},
		{"abc", "abc", "=abc"},
		{"0123456", "0123456", "=0123456"},
		{"01234567", "01234567", "0+8"},
		{"01234567", "0123456", "=0123456"},
		{"01234567", "1234567", "=1234567"},
		{"x01234567", "y01234567z", "=y 1+8 =z"},
		{"0123456789abcdef", "xx0123456789yy01234567", "=xx 0+10 =yy 0+8"},
		{"01234567", "0123456701234567", "0+8 0+8"},
		{"01234567", "01234567=01234567", "0+8 == 0+8"},
		{"0123456789", "12345678", "1+8"},
		// Of several longest ones the one with the least At.
		{"01234567,01234567", "01234567", "0+8"},
		{"x01234567,y01234567", "01234567", "1+8"},
		{"aaaaaaaaaaaa", "aaaaaaaa", "0+8"},
		{"aaaaaaaaaaaa", "baaaaaaaaaaaaaaaaaaaaaaaa", "=b 0+12 0+12"},
		{"aaaaaaaaaaaa", "aaaaaaaaaaaaaaaaaaa", "0+12 =aaaaaaa"},
		// The longest one is taken, also if it stands behind, and if two shorter ones would make more.
		{"01234567,012345678", "012345678", "9+9"},
		{"01234567,012345678,01234567", "012345678", "9+9"},
		{"012345678,89abcdef", "0123456789abcdef", "0+9 =9abcdef"},
		{"01234567,89abcdef", "0123456789abcdef", "0+8 9+8"},
		// What stands for itself is one piece, whatever short parts it has.
		{"0123456,01234567", "01234560123456701234560", "=0123456 8+8 =01234560"},
		{"abcdefgh", "abcdefgabcdefgh", "=abcdefg 0+8"},
		{"\x00\x00\x00\x00\x00\x00\x00\xff", "\x00\x00\x00\x00\x00\x00\x00\x00\xff", "=\x00 0+8"},
	} {
		makes(t, c.a, c.b, c.want)
	}
	makes(t, strings.Repeat("\xff", 9), strings.Repeat("\xff", 20), "0+9 0+9 =\xff\xff")
}

// byWords is what Make finds, word by word as P96 has it.
func byWords(a, b string) []api.Piece {
	var l []api.Piece
	data := ""
	end := func() {
		if data != "" {
			l = append(l, api.Piece{Data: data})
		}
		data = ""
	}
	for at := 0; at < len(b); {
		long := 0
		for at+long < len(b) && strings.Contains(a, b[at:at+long+1]) {
			long++
		}
		if long < 8 {
			data += b[at : at+1]
			at++
			continue
		}
		end()
		l = append(l, api.Piece{At: strings.Index(a, b[at:at+long]), Long: long})
		at += long
	}
	end()
	return l
}

// guess is a text of few letters, and changed a text with some changes.
func guess(rnd *rand.Rand, long, letters int) string {
	b := make([]byte, long)
	for i := range b {
		b[i] = byte('a' + rnd.IntN(letters))
	}
	return string(b)
}

func changed(rnd *rand.Rand, a string, letters int) string {
	for range rnd.IntN(5) {
		from := rnd.IntN(len(a) + 1)
		to := min(len(a), from+rnd.IntN(20))
		part := a[from:to]
		switch rnd.IntN(4) {
		case 0:
			a = a[:from] + a[to:]
		case 1:
			a = a[:from] + guess(rnd, rnd.IntN(5), letters) + a[to:]
		case 2:
			a = a[to:] + part + a[:from]
		case 3:
			a = a[:to] + part + a[from:]
		}
	}
	return a
}

func TestP96MakeChance(t *testing.T) {
	rnd := rand.New(rand.NewPCG(1, 2))
	copies, late := 0, 0
	for range 6000 {
		letters := 1 + rnd.IntN(4)
		a := guess(rnd, rnd.IntN(60), letters)
		b := changed(rnd, a, letters)
		if rnd.IntN(4) == 0 {
			b = guess(rnd, rnd.IntN(60), letters)
		}
		want := api.Delta{Old: len(a), New: len(b), Pieces: byWords(a, b)}
		d, e := delta.Make(a, b)
		if d.Old != len(a) || d.New != len(b) || !same(d.Pieces, want.Pieces) || e != api.OK {
			t.Fatalf("%q, %q: %q, %d, not %q", a, b, show(d.Pieces), e, show(want.Pieces))
		}
		for _, p := range d.Pieces {
			if p.Data == "" {
				copies++
				if p.At > 0 {
					late++
				}
			}
		}
		applies(t, a, b, d)
	}
	if copies < 3000 || late < 1000 {
		t.Error("too little is tried:", copies, late)
	}
}

func TestP96MakeLarge(t *testing.T) {
	most := strings.Repeat("a", api.MaxData)
	for _, c := range []struct{ a, b string }{{most + "a", ""}, {"", most + "a"}, {most, most + "a"}, {most + "a", most}} {
		d, e := delta.Make(c.a, c.b)
		isDelta(t, "Make", d, e, api.Delta{}, api.ErrLarge)
	}
	d, e := delta.Make(most, most)
	isDelta(t, "Make", d, e, between(most, "0+65536"), api.OK)
	d, e = delta.Make("", most)
	isDelta(t, "Make", d, e, between("", "="+most), api.OK)

	a := "01234567"
	b := strings.Repeat(a+"x", api.MaxPieces/2)
	d, e = delta.Make(a, b)
	isDelta(t, "Make", d, e, between(a, strings.Repeat("0+8 =x ", api.MaxPieces/2)), api.OK)
	for _, more := range []string{b + a, "x" + b, b + a + "x", strings.Repeat(b, 2)} {
		d, e = delta.Make(a, more)
		isDelta(t, "Make", d, e, api.Delta{}, api.ErrLarge)
	}
}

func TestP97Back(t *testing.T) {
	rnd := rand.New(rand.NewPCG(3, 4))
	for range 1000 {
		a := guess(rnd, rnd.IntN(60), 3)
		b := changed(rnd, a, 3)
		d, _ := delta.Make(a, b)
		want, _ := delta.Make(b, a)
		back, e := delta.Back(a, d)
		isDelta(t, "Back", back, e, want, api.OK)
		applies(t, b, a, back)
	}
	d, e := delta.Back("0123456789", between("0123456789", "9+1 0+9 =x"))
	isDelta(t, "Back", d, e, between("9012345678x", "1+9 =9"), api.OK)

	a := strings.Repeat("01234567x", api.MaxPieces/2) + "01234567"
	d, e = delta.Back(a, between(a, "0+8"))
	isDelta(t, "Back", d, e, api.Delta{}, api.ErrLarge)
}
