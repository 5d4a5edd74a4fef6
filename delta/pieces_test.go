package delta_test

import (
	"math"
	"slices"
	"strings"
	"testing"

	"outfitter/api"
	"outfitter/delta"
	"outfitter/disk"
)

func TestP95CheckSteps(t *testing.T) {
	for _, c := range []struct {
		pieces string
		old    int
		want   int
		error  api.Errno
	}{
		{"", 0, 0, api.OK},
		{"", api.MaxData, 0, api.OK},
		{"=a", 0, 1, api.OK},
		{"0+1", 1, 1, api.OK},
		{"0+10", 10, 10, api.OK},
		{"9+1", 10, 1, api.OK},
		{"8+2 =abc", 10, 5, api.OK},
		{"5+2 =abc 0+10 =d =e 5+3 6+1", 10, 21, api.OK},
		{"0+65536", 65536, 65536, api.OK},
		{"0+65535 =a", 65536, 65536, api.OK},
		{"", -1, 0, api.ErrRange},
		{"", api.MaxData + 1, 0, api.ErrRange},
		{"=a", math.MinInt, 0, api.ErrRange},
		{"=a", math.MaxInt, 0, api.ErrRange},
		{"0+0", 10, 0, api.ErrRange},
		{"0+0", 0, 0, api.ErrRange},
		{"0+1", 0, 0, api.ErrRange},
		{"10+0", 10, 0, api.ErrRange},
		{"5+-1", 10, 0, api.ErrRange},
		{"-1+1", 10, 0, api.ErrRange},
		{"-1+5", 10, 0, api.ErrRange},
		{"9+2", 10, 0, api.ErrRange},
		{"10+1", 10, 0, api.ErrRange},
		{"0+11", 10, 0, api.ErrRange},
		{"=a 0+1 9+2 =b", 10, 0, api.ErrRange},
		{"0+9223372036854775807", 10, 0, api.ErrRange},
		{"1+9223372036854775807", 10, 0, api.ErrRange},
		{"9223372036854775807+1", 10, 0, api.ErrRange},
		{"9223372036854775807+9223372036854775807", 10, 0, api.ErrRange},
		{"-9223372036854775808+1", 10, 0, api.ErrRange},
		{"1+-9223372036854775808", 10, 0, api.ErrRange},
		{"0+65536 =a", 65536, 0, api.ErrLarge},
		{"0+65536 0+1", 65536, 0, api.ErrLarge},
		{"0+65536 0+65536 0+0", 65536, 0, api.ErrRange},
	} {
		if n, e := delta.CheckSteps(pieces(c.pieces), c.old); n != c.want || e != c.error {
			t.Errorf("%.100q, %d: %d, %d, not %d, %d", c.pieces, c.old, n, e, c.want, c.error)
		}
	}
}

func TestP95CheckStepsData(t *testing.T) {
	bad := api.Piece{At: -1}
	for i, c := range []struct {
		l     []api.Piece
		old   int
		want  int
		error api.Errno
	}{
		{[]api.Piece{{Data: "a", At: 1}}, 10, 0, api.ErrForm},
		{[]api.Piece{{Data: "a", Long: 1}}, 10, 0, api.ErrForm},
		{[]api.Piece{{Data: "a", At: -1}}, 10, 0, api.ErrForm},
		{[]api.Piece{{Data: "a", Long: -1}}, 10, 0, api.ErrForm},
		{[]api.Piece{{Data: "a", At: 1, Long: 20}}, 10, 0, api.ErrForm},
		{[]api.Piece{{Data: "a", At: 1, Long: -1}}, 10, 0, api.ErrForm},
		{[]api.Piece{{Data: "a", At: 1}, bad}, 10, 0, api.ErrForm},
		{[]api.Piece{bad, {Data: "a", At: 1}}, 10, 0, api.ErrRange},
		{[]api.Piece{{Data: strings.Repeat("a", api.MaxData)}}, 0, api.MaxData, api.OK},
		{[]api.Piece{{Data: strings.Repeat("a", api.MaxData+1)}}, 0, 0, api.ErrLarge},
		{[]api.Piece{{Data: strings.Repeat("a", api.MaxData+1)}, bad}, 0, 0, api.ErrRange},
		{[]api.Piece{{Data: strings.Repeat("a", api.MaxData+1)}, {Data: "a", At: 1}}, 0, 0, api.ErrForm},
		{slices.Repeat([]api.Piece{{Data: "\x00"}}, api.MaxPieces), 0, api.MaxPieces, api.OK},
		{slices.Repeat([]api.Piece{{Data: "\x00"}}, api.MaxPieces+1), 0, 0, api.ErrLarge},
		{slices.Repeat([]api.Piece{bad}, api.MaxPieces), 0, 0, api.ErrRange},
		{slices.Repeat([]api.Piece{bad}, api.MaxPieces+1), 0, 0, api.ErrLarge},
		{slices.Repeat([]api.Piece{bad}, api.MaxPieces+1), -1, 0, api.ErrRange},
		{slices.Repeat([]api.Piece{{Data: "a", At: 1}}, api.MaxPieces+1), -1, 0, api.ErrRange},
	} {
		if n, e := delta.CheckSteps(c.l, c.old); n != c.want || e != c.error {
			t.Errorf("%d: %d, %d, not %d, %d", i, n, e, c.want, c.error)
		}
	}
}

func TestP95Check(t *testing.T) {
	for i := range wrongs + 1 {
		d, want := wrong(i)
		if e := delta.Check(d); e != want {
			t.Errorf("%d: %d, not %d", i, e, want)
		}
	}
	good := between("abcdef", "0+2 =x 3+3")
	for i, c := range []struct {
		do   func(d *api.Delta)
		want api.Errno
	}{
		{func(d *api.Delta) {}, api.OK},
		{func(d *api.Delta) { *d = api.Delta{OldSum: good.OldSum, NewSum: good.NewSum} }, api.OK},
		{func(d *api.Delta) { *d = api.Delta{} }, api.ErrForm},
		{func(d *api.Delta) { d.Old = api.MaxData }, api.OK},
		{func(d *api.Delta) { d.Old = api.MaxData + 1 }, api.ErrRange},
		{func(d *api.Delta) { d.Old = 5 }, api.ErrRange},
		{func(d *api.Delta) { d.New = api.MaxData }, api.ErrConflict},
		{func(d *api.Delta) { d.New = api.MaxData + 1 }, api.ErrRange},
		{func(d *api.Delta) { d.New = 5 }, api.ErrConflict},
		{func(d *api.Delta) { d.New = 7 }, api.ErrConflict},
		{func(d *api.Delta) { d.New = 0; d.Pieces = nil }, api.OK},
		{func(d *api.Delta) { d.Pieces = nil }, api.ErrConflict},
		{func(d *api.Delta) { d.Pieces[1].Long = 1 }, api.ErrForm},
		{func(d *api.Delta) { d.Pieces[1].Data = strings.Repeat("x", api.MaxData) }, api.ErrLarge},
	} {
		d := good
		d.Pieces = slices.Clone(d.Pieces)
		c.do(&d)
		if e := delta.Check(d); e != c.want {
			t.Errorf("%d: %d, not %d", i, e, c.want)
		}
	}
}

func TestP95CheckSums(t *testing.T) {
	for sum, want := range map[string]api.Errno{
		"0123456789abcdef":      api.OK,
		"ffffffffffffffff":      api.OK,
		"0000000000000000":      api.OK,
		"0123456789abcde":       api.ErrForm,
		"0123456789abcdef0":     api.ErrForm,
		"0123456789abcdeF":      api.ErrForm,
		"0123456789abcdeg":      api.ErrForm,
		"g123456789abcdef":      api.ErrForm,
		"01234567 9abcdef":      api.ErrForm,
		"0123456/:9abcdef":      api.ErrForm,
		"0123456789abc\x60ef":   api.ErrForm,
		"0x23456789abcdef":      api.ErrForm,
		"+123456789abcdef":      api.ErrForm,
		"":                      api.ErrForm,
		"0123456789abcd\u00e9":  api.ErrForm,
		"0123456789abcdef\x00":  api.ErrForm,
		strings.Repeat("0", 32): api.ErrForm,
	} {
		d := between("abc", "0+2")
		d.OldSum = sum
		if e := delta.Check(d); e != want {
			t.Errorf("OldSum %q: %d, not %d", sum, e, want)
		}
		d = between("abc", "0+2")
		d.NewSum = sum
		if e := delta.Check(d); e != want {
			t.Errorf("NewSum %q: %d, not %d", sum, e, want)
		}
	}
}

// TestP95First sees that all functions with a delta look at it ahead of all else.
func TestP95First(t *testing.T) {
	good := between("abc", "0+2")
	for i := range wrongs {
		d, want := wrong(i)
		text, e := delta.Apply("other", d)
		if text != "" || e != want {
			t.Error("Apply", i, text, e, want)
		}
		made, e := delta.Compose(d, good)
		isDelta(t, "Compose", made, e, api.Delta{}, want)
		made, e = delta.Compose(good, d)
		isDelta(t, "Compose", made, e, api.Delta{}, want)
		made, e = delta.Tidy(d)
		isDelta(t, "Tidy", made, e, api.Delta{}, want)
		made, e = delta.Back("other", d)
		isDelta(t, "Back", made, e, api.Delta{}, want)
		if n, e := delta.Fresh(d); n != 0 || e != want {
			t.Error("Fresh", i, n, e, want)
		}
		if text, e := delta.Print(d); text != "" || e != want {
			t.Error("Print", i, text, e, want)
		}
		if n, e := delta.Cost(d); n != 0 || e != want {
			t.Error("Cost", i, n, e, want)
		}
	}
	first, want := wrong(4)
	second, _ := wrong(0)
	made, e := delta.Compose(first, second)
	isDelta(t, "Compose", made, e, api.Delta{}, want)
}

func TestP96Apply(t *testing.T) {
	for _, c := range []struct{ a, pieces, want string }{
		{"", "", ""},
		{"abc", "", ""},
		{"", "=abc", "abc"},
		{"abc", "0+3", "abc"},
		{"abc", "2+1 1+1 0+1", "cba"},
		{"abc", "0+2 0+2 =x 1+2 =y =z", "ababxbcyz"},
		{"a\x00\xff\n", "1+3 =\x01 0+2", "\x00\xff\n\x01a\x00"},
	} {
		applies(t, c.a, c.want, between(c.a, c.pieces))
	}
	big := strings.Repeat("ab", api.MaxData/2)
	applies(t, big, big[1:]+big[:1], between(big, "1+65535 0+1"))
}

func TestP96ApplyErrors(t *testing.T) {
	good := between("abcdef", "0+2 =x 3+3")
	for i, c := range []struct {
		a  string
		do func(d *api.Delta)
	}{
		{"", func(d *api.Delta) {}},
		{"abcdeg", func(d *api.Delta) {}},
		{"abcde", func(d *api.Delta) {}},
		{"abcdeff", func(d *api.Delta) {}},
		{"abxdef", func(d *api.Delta) {}}, // where no piece copies from
		{"abcdef", func(d *api.Delta) { d.OldSum = disk.SumOf("abcdeg") }},
		{"abcdef", func(d *api.Delta) { d.Old = 7 }},
		{"abcdeg", func(d *api.Delta) { d.OldSum = disk.SumOf("abcdeg") }},
		{"abcdef", func(d *api.Delta) { d.NewSum = disk.SumOf("abcdef") }},
		{"abcdef", func(d *api.Delta) { d.Pieces[1].Data = "y" }},
		{strings.Repeat("a", 1<<20), func(d *api.Delta) {}},
	} {
		d := good
		d.Pieces = slices.Clone(d.Pieces)
		c.do(&d)
		if b, e := delta.Apply(c.a, d); b != "" || e != api.ErrSum {
			t.Errorf("%d: %q, %d", i, b, e)
		}
		if b, e := delta.Back(c.a, d); !same(b, api.Delta{}) || e != api.ErrSum {
			t.Errorf("%d: %v, %d", i, b, e)
		}
	}
}

func TestP97Fresh(t *testing.T) {
	for text, want := range map[string]int{
		"": 0, "0+3": 0, "=a": 1, "=abc =d": 4, "0+3 =abc 1+2 =de": 5,
	} {
		if n, e := delta.Fresh(between("0123456789", text)); n != want || e != api.OK {
			t.Errorf("%q: %d, %d, not %d", text, n, e, want)
		}
	}
}
