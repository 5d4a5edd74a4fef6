package delta_test

import (
	"math/rand/v2"
	"strings"
	"testing"

	"outfitter/api"
	"outfitter/delta"
	"outfitter/disk"
)

const (
	zeros = "\x00\x00\x00\x00\x00\x00\x00\x00"
	sums  = "\x01\x23\x45\x67\x89\xab\xcd\xef" + "\xfe\xdc\xba\x98\x76\x54\x32\x10"
)

// sealed is a text with the bytes of its sum behind it.
func sealed(body string) string {
	sum := disk.SumOf(body)
	for i := 0; i < len(sum); i += 2 {
		body += string([]byte{byte(strings.Index("0123456789abcdef", sum[i:i+1])*16 + strings.Index("0123456789abcdef", sum[i+1:i+2]))})
	}
	return body
}

// plain is a delta with told sums.
func plain(old, long int, text string) api.Delta {
	return api.Delta{Old: old, New: long, OldSum: "0123456789abcdef", NewSum: "fedcba9876543210", Pieces: pieces(text)}
}

func TestP98Print(t *testing.T) {
	for i, c := range []struct {
		d    api.Delta
		body string
	}{
		{api.Delta{OldSum: "0000000000000000", NewSum: "0000000000000000"}, "OFD1\x00\x00" + zeros + zeros + "\x00"},
		{plain(0, 0, ""), "OFD1\x00\x00" + sums + "\x00"},
		{plain(300, 3, "=a 200+2"), "OFD1\xac\x02\x03" + sums + "\x02\x01\x01a\x00\xc8\x01\x02"},
		{plain(127, 127, "0+127"), "OFD1\x7f\x7f" + sums + "\x01\x00\x00\x7f"},
		{plain(128, 128, "0+128"), "OFD1\x80\x01\x80\x01" + sums + "\x01\x00\x00\x80\x01"},
		{plain(16383, 16383, "0+16383"), "OFD1\xff\x7f\xff\x7f" + sums + "\x01\x00\x00\xff\x7f"},
		{plain(16384, 16384, "0+16384"), "OFD1\x80\x80\x01\x80\x80\x01" + sums + "\x01\x00\x00\x80\x80\x01"},
		{plain(65536, 65536, "0+65536"), "OFD1\x80\x80\x04\x80\x80\x04" + sums + "\x01\x00\x00\x80\x80\x04"},
		{plain(65536, 2, "65535+1 65534+1"), "OFD1\x80\x80\x04\x02" + sums + "\x02\x00\xff\xff\x03\x01\x00\xfe\xff\x03\x01"},
		{plain(0, 7, "=a =\x00\x01\xff =def"), "OFD1\x00\x07" + sums + "\x03\x01\x01a\x01\x03\x00\x01\xff\x01\x03def"},
		{plain(9, 200, "="+strings.Repeat("x", 200)), "OFD1\x09\xc8\x01" + sums + "\x01\x01\xc8\x01" + strings.Repeat("x", 200)},
		{plain(9, 5000, strings.Repeat("8+1 ", api.MaxPieces)), "OFD1\x09\x88\x27" + sums + "\x88\x27" + strings.Repeat("\x00\x08\x01", api.MaxPieces)},
	} {
		want := sealed(c.body)
		text, e := delta.Print(c.d)
		if text != want || e != api.OK {
			t.Errorf("Print %d: %.200q, %d, not %.200q", i, text, e, want)
		}
		d, e := delta.Parse(want)
		isDelta(t, "Parse", d, e, c.d, api.OK)
		if n, e := delta.Cost(c.d); n != len(want) || e != api.OK {
			t.Errorf("Cost %d: %d, %d, not %d", i, n, e, len(want))
		}
	}
}

// TestP98Sum has the sum of the empty delta written by hand.
func TestP98Sum(t *testing.T) {
	sum := uint64(14695981039346656037)
	for _, c := range []byte("OFD1\x00\x00" + sums + "\x00") {
		sum = (sum ^ uint64(c)) * 1099511628211
	}
	text, _ := delta.Print(plain(0, 0, ""))
	for i, c := range []byte(text[len(text)-8:]) {
		if c != byte(sum>>(56-8*i)) {
			t.Errorf("byte %d: %x, not of %x", i, c, sum)
		}
	}
}

func TestP98ParseSyntax(t *testing.T) {
	const start = "OFD1\x09\x02" + sums
	for i, body := range []string{
		"", "O", "OFD1", "OFD1\x09", "OFD1\x09\x02", "OFD1\x09\x02" + sums[:8], "OFD1\x09\x02" + sums[:15], start,
		"OFD2\x09\x02" + sums + "\x01\x00\x00\x02", "ofd1\x09\x02" + sums + "\x01\x00\x00\x02", "XOFD1\x09\x02" + sums + "\x01\x00\x00\x02", " " + start + "\x01\x00\x00\x02",
		// Numbers that are not written so.
		"OFD1\x89\x00\x02" + sums + "\x01\x00\x00\x02",
		"OFD1\x80\x00\x02" + sums + "\x01\x00\x00\x02",
		"OFD1\x09\x82\x00" + sums + "\x01\x00\x00\x02",
		"OFD1\x09\x82\x80\x00" + sums + "\x01\x00\x00\x02",
		"OFD1\x80\x00\x01\x02" + sums + "\x01\x00\x00\x02",
		start + "\x81\x00\x00\x00\x02",
		start + "\x01\x00\x80\x00\x02",
		start + "\x01\x00\x00\x82\x00",
		start + "\x01\x01\x82\x00ab",
		// Numbers that are too long.
		"OFD1\x80\x80\x80\x80\x80\x01\x02" + sums + "\x01\x00\x00\x02",
		"OFD1\xff\xff\xff\xff\xff\xff\xff\xff\xff\x01\x02" + sums + "\x01\x00\x00\x02",
		"OFD1\x09\xff\xff\xff\xff\xff\x01" + sums + "\x01\x00\x00\x02",
		"OFD1\x09\x02" + sums + "\x81\x80\x80\x80\x80\x01\x00\x00\x02",
		start + "\x01\x00\x00\x82\x80\x80\x80\x80\x01",
		"OFD1\x80\x80\x80\x80\x80\x00\x02" + sums + "\x01\x00\x00\x02",
		"OFD1" + strings.Repeat("\x80", 16) + "\x00",
		// Pieces that are none.
		start + "\x01\x02\x00\x02",
		start + "\x01\x02",
		start + "\x01\x80\x00\x00\x02",
		start + "\x01\xff\x00\x02",
		start + "\x01\x01\x00",
		start + "\x02\x01\x00\x00\x00\x02",
		start + "\x01\x01\x02a",
		start + "\x01\x01\x20ab",
		start + "\x01\x01\xff\xff\xff\xff\x7fab",
		// Too few or too many.
		start + "\x01", start + "\x01\x00", start + "\x01\x00\x00", start + "\x01\x01",
		start + "\x02\x00\x00\x02",
		start + "\xff\xff\xff\xff\x7f\x00\x00\x02",
		start + "\x00\x00\x00\x02",
		start + "\x01\x00\x00\x02\x00",
		start + "\x01\x00\x00\x01\x00\x01\x01",
	} {
		for _, text := range []string{body, sealed(body), body + zeros} {
			d, e := delta.Parse(text)
			isDelta(t, i, d, e, api.Delta{}, api.ErrSyntax)
		}
	}
	good := sealed(start + "\x01\x00\x00\x02")
	if _, e := delta.Parse(good); e != api.OK {
		t.Error(e)
	}
	for i := range good {
		d, e := delta.Parse(good[:i])
		isDelta(t, i, d, e, api.Delta{}, api.ErrSyntax)
	}
	for _, text := range []string{good + "\x00", good + good, good + "\n", good + zeros, "\x00" + good} {
		d, e := delta.Parse(text)
		isDelta(t, "more", d, e, api.Delta{}, api.ErrSyntax)
	}
}

func TestP98ParseErrors(t *testing.T) {
	most := strings.Repeat("\x00", 2*api.MaxText)
	full := "OFD1\x00\x80\x80\x04" + sums + "\x01\x01"
	for i, c := range []struct {
		text string
		want api.Errno
	}{
		{most, api.ErrSyntax},
		{most + "\x00", api.ErrLarge},
		{sealed("OFD1\x09\x02" + sums + "\x01\x00\x00\x02" + most), api.ErrLarge},
		// The sum is looked at ahead of all that Check says.
		{"OFD1\x00\x00" + sums + "\x00" + zeros, api.ErrSum},
		{"OFD1\x80\x80\x08\x00" + sums + "\x00" + zeros, api.ErrSum},
		{sealed("OFD1\x81\x80\x04\x00" + sums + "\x00"), api.ErrRange},
		{sealed("OFD1\x00\x81\x80\x04" + sums + "\x00"), api.ErrRange},
		{sealed("OFD1\xff\xff\xff\xff\x7f\x00" + sums + "\x00"), api.ErrRange},
		{sealed("OFD1\x80\x80\x80\x80\x01\x00" + sums + "\x00"), api.ErrRange},
		{sealed("OFD1\x09\x02" + sums + "\x01\x00\x00\x00"), api.ErrRange},
		{sealed("OFD1\x09\x02" + sums + "\x01\x00\x08\x02"), api.ErrRange},
		{sealed("OFD1\x09\x02" + sums + "\x01\x00\x80\x80\x80\x80\x01\xff\xff\xff\xff\x7f"), api.ErrRange},
		{sealed("OFD1\x09\x02" + sums + "\x01\x00\x00\x03"), api.ErrConflict},
		{sealed("OFD1\x09\x02" + sums + "\x00"), api.ErrConflict},
		{sealed("OFD1\x09\x88\x27" + sums + "\x88\x27" + strings.Repeat("\x00\x00\x01", api.MaxPieces)), api.OK},
		{sealed("OFD1\x09\x89\x27" + sums + "\x89\x27" + strings.Repeat("\x00\x00\x01", api.MaxPieces+1)), api.ErrLarge},
		{sealed("OFD1\x09\x89\x27" + sums + "\x89\x27" + strings.Repeat("\x00\x00\x00", api.MaxPieces+1)), api.ErrLarge},
		{sealed(full + "\x80\x80\x04" + strings.Repeat("a", api.MaxData)), api.OK},
		{sealed(full + "\x81\x80\x04" + strings.Repeat("a", api.MaxData+1)), api.ErrLarge},
	} {
		d, e := delta.Parse(c.text)
		if e != c.want || e != api.OK && !same(d, api.Delta{}) {
			t.Errorf("%d: %v, %d, not %d", i, d, e, c.want)
		}
	}
}

// TestP98Bytes changes each byte of what Print writes.
func TestP98Bytes(t *testing.T) {
	text, _ := delta.Print(plain(300, 306, "=ab 0+298 =cde 200+2 299+1"))
	for i := range text {
		for bit := range 8 {
			b := []byte(text)
			b[i] ^= 1 << bit
			d, e := delta.Parse(string(b))
			if e != api.ErrSum && e != api.ErrSyntax || !same(d, api.Delta{}) {
				t.Errorf("byte %d: %v, %d", i, d, e)
			}
			isSum := i >= len(text)-8 || i >= 8 && i < 24
			if isSum && e != api.ErrSum {
				t.Errorf("byte %d: %d", i, e)
			}
		}
	}
}

// TestP98Chance sees that what can be read is just what is written.
func TestP98Chance(t *testing.T) {
	rnd := rand.New(rand.NewPCG(7, 8))
	read := 0
	for range 20000 {
		a := guess(rnd, rnd.IntN(300), 26)
		d := between(a, show(guessPieces(rnd, len(a))))
		text, e := delta.Print(d)
		if e != api.OK {
			t.Fatal(d, e)
		}
		got, e := delta.Parse(text)
		isDelta(t, text, got, e, d, api.OK)
		body := []byte(text[:len(text)-8])
		for range 1 + rnd.IntN(3) {
			at := rnd.IntN(len(body))
			body[at] = []byte{0, 1, 2, 127, 128, 129, byte(rnd.IntN(256))}[rnd.IntN(7)]
		}
		other := sealed(string(body))
		got, e = delta.Parse(other)
		if e != api.OK {
			if !same(got, api.Delta{}) {
				t.Fatalf("%q: %v, %d", other, got, e)
			}
			continue
		}
		read++
		if again, e := delta.Print(got); again != other || e != api.OK {
			t.Fatalf("%q: %q, %d", other, again, e)
		}
	}
	if read < 1000 {
		t.Error("too little is tried:", read)
	}
}
