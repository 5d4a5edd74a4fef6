package ver_test

import (
	"math/rand/v2"
	"strconv"
	"strings"
	"testing"

	"outfitter/api"
	"outfitter/ver"
)

// apart is so many spans, each one major version.
func apart(n int) api.Range {
	var r api.Range
	for i := range n {
		r.Spans = append(r.Spans, both(major(2*i), major(2*i+1)))
	}
	return r
}

func TestP4CheckRange(t *testing.T) {
	one, two, three := major(1), major(2), major(3)
	for i, c := range []struct {
		r    api.Range
		want api.Errno
	}{
		{spans(), api.OK},
		{spans(api.Span{}), api.OK},
		{spans(from(one)), api.OK},
		{spans(to(one)), api.OK},
		{spans(both(one, two)), api.OK},
		{spans(both(api.Version{Early: "0"}, api.Version{})), api.OK},
		{spans(to(one), both(two, three), from(major(4))), api.OK},
		{spans(to(api.Version{Major: 1, Early: "a"}), from(one)), api.OK},
		{apart(10), api.OK},
		{apart(11), api.ErrLarge},
		{spans(append(apart(10).Spans, api.Span{From: badRange})...), api.ErrLarge},

		{spans(api.Span{From: one}), api.ErrForm},
		{spans(api.Span{To: one}), api.ErrForm},
		{spans(api.Span{From: badRange}), api.ErrForm},
		{spans(api.Span{To: badRange}), api.ErrForm},
		{spans(api.Span{HasFrom: true, From: badRange, To: one}), api.ErrForm},
		{spans(api.Span{From: api.Version{Early: "a"}}), api.ErrForm},

		{spans(from(badRange)), api.ErrRange},
		{spans(from(badForm)), api.ErrForm},
		{spans(to(badRange)), api.ErrRange},
		{spans(both(badRange, badForm)), api.ErrRange},
		{spans(both(badForm, badRange)), api.ErrForm},
		{spans(both(two, badRange)), api.ErrRange},

		{spans(both(two, one)), api.ErrOrder},
		{spans(both(one, one)), api.ErrOrder},
		{spans(both(one, api.Version{Major: 1, Early: "a"})), api.ErrOrder},
		{spans(from(one), from(two)), api.ErrOrder},
		{spans(to(one), to(two)), api.ErrOrder},
		{spans(both(one, two), to(three)), api.ErrOrder},
		{spans(to(one), from(one)), api.ErrOrder},
		{spans(both(two, three), both(major(0), one)), api.ErrOrder},
		{spans(both(one, three), both(two, major(4))), api.ErrOrder},
		{spans(api.Span{}, api.Span{}), api.ErrOrder},
		{spans(api.Span{}, from(one)), api.ErrOrder},
		{spans(to(one), api.Span{}), api.ErrOrder},
		// What is not set is zero, but that is no end: 0.0.0 would be behind this one.
		{spans(to(api.Version{Early: "a"}), api.Span{}), api.ErrOrder},
		{spans(to(api.Version{Early: "a"}), to(one)), api.ErrOrder},

		// The first bad span decides; of a span its own errors come before its place.
		{spans(both(two, one), from(badRange)), api.ErrOrder},
		{spans(from(badRange), both(two, one)), api.ErrRange},
		{spans(to(one), from(two), api.Span{From: one}), api.ErrForm},
		{spans(to(two), both(one, badRange)), api.ErrRange},
		{spans(from(two), from(one), from(badRange)), api.ErrOrder},
	} {
		if e := ver.CheckRange(c.r); e != c.want {
			t.Errorf("CheckRange %d (%v): %d", i, c.r, e)
		}
	}
}

func TestP4Has(t *testing.T) {
	for _, c := range []struct{ text, in, out string }{
		{"none", "", "0.0.0 1.0.0 1.0.0-a"},
		{"*", "0.0.0 1.2.3 0.0.0-0 1.2.3-a.1", ""},
		{">=1.0.0", "1.0.0 1.0.1 9.9.9", "0.9.9 1.0.0-a 1.0.1-a 9.0.0-a"},
		{"<1.0.0", "0.0.0 0.9.9", "1.0.0 1.0.0-a 0.9.9-a 0.0.0-0"},
		{">=1.0.0 <2.0.0", "1.0.0 1.9.9", "0.9.9 2.0.0 1.0.0-a 1.5.0-a 2.0.0-a"},
		{">=1.0.0-b <2.0.0", "1.0.0-b 1.0.0-b.0 1.0.0-c 1.0.0 1.5.0", "1.0.0-a 1.0.1-b 1.1.0-c 1.5.0-a 2.0.0-a 2.0.0"},
		{">=1.0.0 <2.0.0-b", "1.0.0 1.9.9 2.0.0-a", "1.0.0-a 2.0.0-b 2.0.0 1.9.9-a 2.0.1-a 2.1.0-a"},
		{">=1.0.0-b <1.0.0-d", "1.0.0-b 1.0.0-c", "1.0.0-a 1.0.0-d 1.0.0"},
		{"<1.0.0-b", "0.0.0 0.9.0 1.0.0-a", "1.0.0-b 1.0.0 0.9.0-a"},
		{"=1.2.3", "1.2.3", "1.2.4-0 1.2.4-a 1.2.4 1.2.3-a 1.2.2"},
		{"=1.2.3-a", "1.2.3-a", "1.2.3-a.0 1.2.3-b 1.2.3"},
		{"<1.0.0, >=2.0.0-b", "0.5.0 2.0.0-c 2.0.0 3.0.0", "1.0.0 1.5.0 2.0.0-a 2.0.1-a 0.5.0-a"},
		{"<1.0.0-b, >=2.0.0", "1.0.0-a 2.0.0 3.0.0", "1.0.0-c 1.0.0 2.0.0-a"},
		// An end of another span does not let an early version in.
		{"<1.0.0-b, >=1.0.0-d <2.0.0, >=3.0.0", "1.0.0-a 1.0.0-d 1.0.0 1.5.0 3.0.0", "1.0.0-b 1.0.0-c 2.0.0-a 2.5.0 3.0.0-a"},
		{">=0.0.0-0 <1.0.0, >=1.0.1 <1.0.2-c", "0.0.0-0 0.0.0-z 0.0.0 1.0.1 1.0.2-a", "1.0.0 1.0.1-a 1.0.2-c 0.1.0-z"},
	} {
		r := parseRange(t, c.text)
		for _, s := range strings.Fields(c.in) {
			if is, e := ver.Has(r, parse(t, s)); !is || e != api.OK {
				t.Errorf("Has(%s, %s): %v, %d", c.text, s, is, e)
			}
		}
		for _, s := range strings.Fields(c.out) {
			if is, e := ver.Has(r, parse(t, s)); is || e != api.OK {
				t.Errorf("Has(%s, %s): %v, %d", c.text, s, is, e)
			}
		}
	}
}

func TestP4HasErrors(t *testing.T) {
	if is, e := ver.Has(spans(both(major(2), major(1))), badForm); is || e != api.ErrOrder {
		t.Error(is, e)
	}
	if is, e := ver.Has(spans(api.Span{}), badForm); is || e != api.ErrForm {
		t.Error(is, e)
	}
	if is, e := ver.Has(spans(), badRange); is || e != api.ErrRange {
		t.Error(is, e)
	}
}

func TestP5Common(t *testing.T) {
	for _, c := range []struct{ a, b, want string }{
		{"none", "*", "none"},
		{"*", "none", "none"},
		{"*", "*", "*"},
		{"*", "^1.0.0", ">=1.0.0 <2.0.0"},
		{">=1.0.0", "<2.0.0", ">=1.0.0 <2.0.0"},
		{"<1.0.0", ">=1.0.0", "none"},
		{"<1.0.0", ">=2.0.0", "none"},
		{">=1.0.0", ">=2.0.0", ">=2.0.0"},
		{"<1.0.0", "<2.0.0", "<1.0.0"},
		{"<1.0.0, >=1.5.0 <3.0.0", "^1.0.0", ">=1.5.0 <2.0.0"},
		{"<2.0.0, >=3.0.0", ">=1.0.0 <4.0.0", ">=1.0.0 <2.0.0, >=3.0.0 <4.0.0"},
		{"<2.0.0, >=3.0.0", "<1.0.0, >=1.5.0 <3.5.0, >=4.0.0", "<1.0.0, >=1.5.0 <2.0.0, >=3.0.0 <3.5.0, >=4.0.0"},
		// As if there were versions before all, and between any two.
		{"<0.0.0-0", "*", "<0.0.0-0"},
		{"<1.0.0-0", ">=0.999999.999999", ">=0.999999.999999 <1.0.0-0"},
		{">=1.0.0-a", "<1.0.0-a.0", ">=1.0.0-a <1.0.0-a.0"},
	} {
		got, e := ver.Common(parseRange(t, c.a), parseRange(t, c.b))
		if e != api.OK || printRange(t, got) != c.want {
			t.Errorf("Common(%s, %s): %v, %d", c.a, c.b, got, e)
		}
	}
}

func TestP5CommonErrors(t *testing.T) {
	order, form := spans(both(major(2), major(1))), spans(api.Span{From: major(1)})
	if r, e := ver.Common(order, form); len(r.Spans) != 0 || e != api.ErrOrder {
		t.Error(r, e)
	}
	if r, e := ver.Common(form, order); len(r.Spans) != 0 || e != api.ErrForm {
		t.Error(r, e)
	}
	if r, e := ver.Common(spans(), order); len(r.Spans) != 0 || e != api.ErrOrder {
		t.Error(r, e)
	}
	// Ten spans, each of which a gap of the other range cuts in two; and with one gap less.
	a := apart(10)
	var b api.Range
	for i := range 10 {
		b.Spans = append(b.Spans, both(api.Version{Major: 2*i - 1, Minor: 6}, api.Version{Major: 2 * i, Minor: 4}))
	}
	b.Spans[0] = to(api.Version{Minor: 4})
	if r, e := ver.Common(a, b); len(r.Spans) != 10 || e != api.OK {
		t.Error(r, e)
	}
	b.Spans = append(b.Spans[:9], from(api.Version{Major: 16, Minor: 6}))
	if r, e := ver.Common(a, b); len(r.Spans) != 0 || e != api.ErrLarge {
		t.Error(r, e)
	}
}

func TestP5Within(t *testing.T) {
	for _, c := range []struct {
		a, b string
		want bool
	}{
		{"none", "none", true},
		{"none", "^1.0.0", true},
		{"^1.0.0", "none", false},
		{"*", "*", true},
		{"*", ">=0.0.0-0", false},
		{">=0.0.0", "*", true},
		{"<0.0.0-0", "none", false},
		{"^1.0.0", "^1.0.0", true},
		{"~1.2.0", "^1.0.0", true},
		{"^1.0.0", "~1.2.0", false},
		{">=1.0.0", ">=1.0.0", true},
		{">=1.0.0", ">=1.0.0 <9.0.0", false},
		{"<1.0.0", "<1.0.0", true},
		{"<1.0.0", ">=0.0.0-0 <1.0.0", false},
		{">=1.0.0-a", ">=1.0.0", false},
		{"<1.0.0", "<1.0.0-a", false},
		// By the ends: early versions between make no difference, nor that there are none.
		{"<1.0.0-0", "<0.999999.999999", false},
		{">=1.0.0 <1.5.0, >=1.6.0 <1.7.0", "^1.0.0", true},
		{"^1.0.0", ">=1.0.0 <1.5.0, >=1.6.0 <2.0.0", false},
		{"<1.0.0, >=2.0.0 <3.0.0", "<1.5.0, >=2.0.0", true},
		{"<1.0.0, >=2.0.0 <3.0.0", "<1.5.0", false},
	} {
		if got, e := ver.Within(parseRange(t, c.a), parseRange(t, c.b)); got != c.want || e != api.OK {
			t.Errorf("Within(%s, %s): %v, %d", c.a, c.b, got, e)
		}
	}
	order, form := spans(both(major(2), major(1))), spans(api.Span{From: major(1)})
	if is, e := ver.Within(order, form); is || e != api.ErrOrder {
		t.Error(is, e)
	}
	if is, e := ver.Within(spans(), form); is || e != api.ErrForm {
		t.Error(is, e)
	}
}

// chance makes a range whose ends are among so many versions, major(0) and so on.
func chance(rnd *rand.Rand, ends int) api.Range {
	var r api.Range
	open := rnd.IntN(3) == 0
	s := api.Span{}
	for i := range ends {
		if rnd.IntN(3) == 0 {
			continue
		}
		if open {
			s.HasTo, s.To = true, major(i)
			r.Spans = append(r.Spans, s)
		} else {
			s = from(major(i))
		}
		open = !open
	}
	if open {
		r.Spans = append(r.Spans, s)
	}
	return r
}

// covers looks at a range as a set of points: 2i+1 is major(i), and even ones lie before and between these.
func covers(r api.Range, point int) bool {
	for _, s := range r.Spans {
		if (!s.HasFrom || point >= 2*s.From.Major+1) && (!s.HasTo || point < 2*s.To.Major+1) {
			return true
		}
	}
	return false
}

// TestP5Points holds Common and Within against what they say of each point.
func TestP5Points(t *testing.T) {
	const ends = 7
	rnd := rand.New(rand.NewPCG(1, 2))
	for range 3000 {
		a, b := chance(rnd, ends), chance(rnd, ends)
		c, e := ver.Common(a, b)
		within, f := ver.Within(a, b)
		if e != api.OK || f != api.OK || ver.CheckRange(c) != api.OK {
			t.Fatal(a, b, c, e, f)
		}
		want := true
		for point := range 2*ends + 1 {
			inA, inB := covers(a, point), covers(b, point)
			if covers(c, point) != (inA && inB) {
				t.Fatalf("Common(%v, %v): %v", a, b, c)
			}
			want = want && (inB || !inA)
		}
		if within != want {
			t.Fatalf("Within(%v, %v): %v", a, b, within)
		}
	}
}

func TestP5Greatest(t *testing.T) {
	for _, c := range []struct {
		r, l string
		want int
	}{
		{"^1.0.0", "1.0.0 1.9.0 2.0.0", 1},
		{"^1.0.0", "1.9.0 1.10.0 1.2.0", 1},
		{"*", "1.0.0 2.0.0-a 1.5.0", 1},
		{">=1.0.0", "1.0.0 2.0.0-a 1.5.0", 2},
		{"*", "1.0.0 3.0.0 3.0.0 2.0.0 3.0.0", 1},
		{"*", "1.0.0", 0},
	} {
		var l []api.Version
		for _, s := range strings.Fields(c.l) {
			l = append(l, parse(t, s))
		}
		if got, e := ver.Greatest(parseRange(t, c.r), l); got != c.want || e != api.OK {
			t.Errorf("Greatest(%s, %s): %d, %d", c.r, c.l, got, e)
		}
	}
}

func TestP5GreatestErrors(t *testing.T) {
	all, wrong := spans(api.Span{}), spans(both(major(2), major(1)))
	full := make([]api.Version, 1000)
	full[999] = major(1)
	tooMany := append([]api.Version{badForm}, full...)
	for i, c := range []struct {
		r    api.Range
		l    []api.Version
		want api.Errno
	}{
		{wrong, tooMany, api.ErrOrder},
		{all, tooMany, api.ErrLarge},
		{all, []api.Version{{}, badForm, badRange}, api.ErrForm},
		{all, []api.Version{{}, badRange, badForm}, api.ErrRange},
		{spans(), []api.Version{badForm}, api.ErrForm},
		{spans(), []api.Version{{}, major(1)}, api.ErrNone},
		{spans(from(major(1))), []api.Version{{}}, api.ErrNone},
		{all, nil, api.ErrNone},
	} {
		if got, e := ver.Greatest(c.r, c.l); got != 0 || e != c.want {
			t.Errorf("Greatest %d: %d, %d", i, got, e)
		}
	}
	if got, e := ver.Greatest(all, full); got != 999 || e != api.OK {
		t.Error(got, e)
	}
}

func TestP6PrintRange(t *testing.T) {
	early := api.Version{Major: 1, Early: "a.0"}
	for want, r := range map[string]api.Range{
		"none":                            spans(),
		"*":                               spans(api.Span{}),
		">=1.0.0-a.0":                     spans(from(early)),
		"<1.0.0-a.0":                      spans(to(early)),
		">=1.0.0-a.0 <2.0.0":              spans(both(early, major(2))),
		"<1.0.0-a.0, >=2.0.0":             spans(to(early), from(major(2))),
		"<1.0.0, >=2.0.0 <3.0.0, >=4.0.0": spans(to(major(1)), both(major(2), major(3)), from(major(4))),
	} {
		if got, e := ver.PrintRange(r); got != want || e != api.OK {
			t.Errorf("PrintRange(%v): %q, %d", r, got, e)
		}
		if got, e := ver.ParseRange(want); e != api.OK || printRange(t, got) != want {
			t.Errorf("ParseRange(%q): %v, %d", want, got, e)
		}
	}
	for want, r := range map[api.Errno]api.Range{
		api.ErrLarge: apart(11),
		api.ErrForm:  spans(api.Span{From: major(1)}),
		api.ErrRange: spans(from(badRange)),
		api.ErrOrder: spans(from(major(1)), from(major(2))),
	} {
		if text, e := ver.PrintRange(r); text != "" || e != want {
			t.Errorf("PrintRange(%v): %q, %d", r, text, e)
		}
	}
}

func TestP6ShortForms(t *testing.T) {
	for text, want := range map[string]string{
		"=1.2.3":                   ">=1.2.3 <1.2.4-0",
		"=1.2.3-rc":                ">=1.2.3-rc <1.2.3-rc.0",
		"=0.0.0-0":                 ">=0.0.0-0 <0.0.0-0.0",
		"=999999.999999.0":         ">=999999.999999.0 <999999.999999.1-0",
		"^1.2.3":                   ">=1.2.3 <2.0.0",
		"^1.2.3-a":                 ">=1.2.3-a <2.0.0",
		"^0.2.3":                   ">=0.2.3 <0.3.0",
		"^0.0.3":                   ">=0.0.3 <0.1.0",
		"^0.0.0-a":                 ">=0.0.0-a <0.1.0",
		"~1.2.3":                   ">=1.2.3 <1.3.0",
		"~1.2.3-a":                 ">=1.2.3-a <1.3.0",
		"~0.0.3":                   ">=0.0.3 <0.1.0",
		"1.2.3":                    ">=1.2.3 <2.0.0",
		"0.2.3":                    ">=0.2.3 <0.3.0",
		"1.2.3-a":                  ">=1.2.3-a <2.0.0",
		"<1.0.0, ~1.2.0, =2.0.0":   "<1.0.0, >=1.2.0 <1.3.0, >=2.0.0 <2.0.1-0",
		"0.1.0, 1.0.0-a, >=2.0.1":  ">=0.1.0 <0.2.0, >=1.0.0-a <2.0.0, >=2.0.1",
		"=1.2.3-" + early40[2:]:    ">=1.2.3-" + early40[2:] + " <1.2.3-" + early40[2:] + ".0",
		"^999998.0.0":              ">=999998.0.0 <999999.0.0",
		">=1.2.3-a.b <1.2.3-a.b.0": ">=1.2.3-a.b <1.2.3-a.b.0",
	} {
		if got := printRange(t, parseRange(t, text)); got != want {
			t.Errorf("ParseRange(%q): %q", text, got)
		}
	}
}

func TestP6ParseRangeErrors(t *testing.T) {
	var eleven []string
	for i := range 11 {
		eleven = append(eleven, "=1.0."+strconv.Itoa(i))
	}
	pad := strings.Repeat("=1.0.0, ", 200)
	for want, l := range map[api.Errno][]string{
		api.ErrLarge: {pad[:1001], strings.Repeat(" ", 1001), strings.Join(eleven, ", ")},
		api.ErrSyntax: {
			"", " ", ",", ", ", pad[:1000], "1", "1.2", "**", "* ", " *", "none ", "None", "none, *", "*, none", "none, 1.0.0", "1.0.0,", "1.0.0, ",
			", 1.0.0", "1.0.0,2.0.1", "1.0.0 , 3.0.0", "1.0.0,  3.0.0", "1.0.0,\t3.0.0", "1.0.0 3.0.0", "^ 1.0.0", " ^1.0.0", "^1.0.0 ", "^^1.0.0",
			"=>1.0.0", "==1.0.0", ">1.0.0", "<=1.0.0", ">=", "<", "=", "^", "~", ">=1.0.0<2.0.0", ">=1.0.0  <2.0.0", ">=1.0.0\t<2.0.0",
			">=1.0.0 < 2.0.0", ">= 1.0.0", ">=1.0.0 <2.0.0 <3.0.0", "<2.0.0 >=1.0.0", ">=1.0.0 <", ">= <2.0.0", "<1.0.0 <2.0.0", "^1.0.0 <2.0.0",
			"=1.0.0-", "^01.0.0", ">=1.0.0 <1.0.0000000000", "1.0.0-a ", "^1.0.0-a b", ">=1.0.0-a\t<2.0.0", "1.0.0-a , 3.0.0",
			// ErrSyntax comes first, wherever it is.
			"=1000000.0.0, x", "^999999.0.0, 1.2", ">=1.0.0-A <b", "<1.0.0, <1.0.0, ?", "=1.0.0-" + early40 + ", -",
		},
		api.ErrRange: {
			"=1000000.0.0", ">=1000000.0.0", "<1000000.0.0", ">=1.0.0 <0.0.1000000", ">=1000000.0.0 <1.0.0-A",
			"^999999.0.0", "999999.0.0-a", "~1.999999.0", "^0.999999.0", "=1.2.999999", "=0.0.999999, 1.0.0-A", "^999999.0.0, 1.0.0-A",
			"~0.999999.0, =1.0.0-" + early40, "1000000.0.0-A", ">=2.0.0 <1.0.0, 1000000.0.0",
		},
		api.ErrForm: {
			"=1.0.0-A", "^1.0.0-01", ">=1.0.0-A <1000000.0.0", ">=1.0.0 <2.0.0-A", "<1.0.0-a_b", "1.0.0-A, ^999999.0.0",
			"=1.0.0-" + early40, "=1.0.0-" + early40[1:], "=1.0.0-" + early40 + ", ~0.999999.0", "1.0.0-A, =1000000.0.0", "999999.0.0-A",
		},
		api.ErrOrder: {
			">=2.0.0 <1.0.0", ">=1.0.0 <1.0.0", "*, *", "^1.0.0, ^1.5.0", "2.0.0, 1.0.0", "1.0.0, 2.0.0", "<1.0.0, <2.0.0", ">=1.0.0, >=2.0.0",
			"=1.0.0, =1.0.1-0", "*, 1.0.0",
		},
	} {
		for _, text := range l {
			if r, e := ver.ParseRange(text); len(r.Spans) != 0 || e != want {
				t.Errorf("ParseRange(%q): %v, %d", text, r, e)
			}
		}
	}
}

// TestP6Longest reads ten spans, and a text of just 1000 bytes.
func TestP6Longest(t *testing.T) {
	text := printRange(t, apart(10))
	if got := printRange(t, parseRange(t, text)); got != text {
		t.Error(got)
	}
	if _, e := ver.ParseRange("^1.0.0-" + long(993)); e != api.ErrForm {
		t.Error(e)
	}
	if _, e := ver.ParseRange("^1.0.0-" + long(994)); e != api.ErrLarge {
		t.Error(e)
	}
}
