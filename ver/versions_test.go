package ver_test

import (
	"testing"

	"outfitter/api"
	"outfitter/ver"
)

const early40 = "aaaaaaaaaa.bbbbbbbbbb.cccccccccc.ddddddd"

func TestP2Check(t *testing.T) {
	const top = api.MaxNumber
	for v, want := range map[api.Version]api.Errno{
		{}:                                   api.OK,
		{Major: top, Minor: top, Patch: top}: api.OK,
		{Major: -1}:                          api.ErrRange,
		{Minor: -1}:                          api.ErrRange,
		{Patch: -1}:                          api.ErrRange,
		{Major: top + 1}:                     api.ErrRange,
		{Minor: top + 1}:                     api.ErrRange,
		{Patch: top + 1}:                     api.ErrRange,
		{Patch: -1 << 63}:                    api.ErrRange,
		badBoth:                              api.ErrRange,
	} {
		if e := ver.Check(v); e != want {
			t.Errorf("Check(%v): %d", v, e)
		}
	}
	for early, want := range map[string]api.Errno{
		"a": api.OK, "0": api.OK, "10": api.OK, "0a": api.OK, "00a": api.OK, "a.0.b1": api.OK, "0.0": api.OK,
		"abcdefghij": api.OK, "1234567890": api.OK, early40: api.OK,
		"00": api.ErrForm, "01": api.ErrForm, "a.01": api.ErrForm, "A": api.ErrForm, "a-b": api.ErrForm, "a_": api.ErrForm,
		".": api.ErrForm, "a.": api.ErrForm, ".a": api.ErrForm, "a..b": api.ErrForm, " ": api.ErrForm, "ä": api.ErrForm,
		"abcdefghijk": api.ErrForm, "12345678901": api.ErrForm, early40 + "d": api.ErrForm,
		"`": api.ErrForm, "{": api.ErrForm, "/": api.ErrForm, ":": api.ErrForm, "a\x00": api.ErrForm,
	} {
		if e := ver.Check(api.Version{Major: 1, Early: early}); e != want {
			t.Errorf("Check(%q): %d", early, e)
		}
	}
}

func TestP2PrintAndParse(t *testing.T) {
	for text, v := range map[string]api.Version{
		"0.0.0":                {},
		"1.20.300":             {Major: 1, Minor: 20, Patch: 300},
		"999999.999999.999999": {Major: 999999, Minor: 999999, Patch: 999999},
		"0.0.0-0":              {Early: "0"},
		"1.2.3-rc.1":           {Major: 1, Minor: 2, Patch: 3, Early: "rc.1"},
		"10.0.9-" + early40:    {Major: 10, Patch: 9, Early: early40},
	} {
		if got, e := ver.Print(v); got != text || e != api.OK {
			t.Errorf("Print(%v): %q, %d", v, got, e)
		}
		if got, e := ver.Parse(text); got != v || e != api.OK {
			t.Errorf("Parse(%q): %v, %d", text, got, e)
		}
	}
	for v, want := range map[api.Version]api.Errno{badRange: api.ErrRange, badForm: api.ErrForm, badBoth: api.ErrRange} {
		if text, e := ver.Print(v); text != "" || e != want {
			t.Errorf("Print(%v): %q, %d", v, text, e)
		}
	}
}

func TestP2ParseErrors(t *testing.T) {
	for want, l := range map[api.Errno][]string{
		api.ErrSyntax: {
			"", "1", "1.2", "1.2.", ".1.2", "1..2", "1.2.3.4", "1.2.3.", "a.2.3", "1.b.3", "1.2.c", " 1.2.3", "1.2.3 ", "1. 2.3",
			"01.2.3", "1.02.3", "1.2.03", "00.0.0", "1.2.3-", "-1.2.3", "1.-2.3", "+1.2.3", "1.2-a.3", "1.2.3+a", "1.2.3a", "v1.2.3",
			"1234567890.0.0", "0.1000000000.0", "0.0.99999999999999999999", "1234567890.0.0-A", "0x1.0.0", "1_0.0.0", "-a", "-", ".", "..",
			"000000001.0.0", "1.2.3\n",
		},
		api.ErrRange: {"1000000.0.0", "0.1000000.0", "0.0.1000000", "999999999.0.0", "0.0.1000000-A"},
		api.ErrForm: {
			"1.2.3-A", "1.2.3-01", "1.2.3--", "1.2.3-a-b", "1.2.3-.", "1.2.3-a..b", "1.2.3-a ", "1.2.3-abcdefghijk", "1.2.3-" + early40 + "d",
		},
	} {
		for _, text := range l {
			if v, e := ver.Parse(text); v != (api.Version{}) || e != want {
				t.Errorf("Parse(%q): %v, %d", text, v, e)
			}
		}
	}
}

func TestP3Compare(t *testing.T) {
	rising := []string{
		"0.0.0-0", "0.0.0", "0.0.1", "0.1.0-z", "0.1.0", "0.9.9", "0.10.0",
		"1.0.0-0", "1.0.0-0.0", "1.0.0-0.a", "1.0.0-2", "1.0.0-10", "1.0.0-999999999", "1.0.0-4294967296", "1.0.0-9999999999",
		"1.0.0-0a", "1.0.0-10a", "1.0.0-2a", "1.0.0-a", "1.0.0-a.0", "1.0.0-a.1", "1.0.0-a.1.0", "1.0.0-a.9", "1.0.0-a.10", "1.0.0-a.1a",
		"1.0.0-a.b", "1.0.0-a.b.c", "1.0.0-a0", "1.0.0-ab", "1.0.0-b", "1.0.0-b.0", "1.0.0",
		"1.0.1-a", "1.0.1", "1.0.2", "1.0.10", "1.2.0", "1.10.0", "2.0.0-a", "2.0.0", "10.0.0", "999999.0.0",
	}
	for i, a := range rising {
		for j, b := range rising {
			want := 0
			switch {
			case i < j:
				want = -1
			case i > j:
				want = 1
			}
			if got, e := ver.Compare(parse(t, a), parse(t, b)); got != want || e != api.OK {
				t.Errorf("Compare(%s, %s): %d, %d", a, b, got, e)
			}
		}
	}
}

func TestP3CompareErrors(t *testing.T) {
	for _, l := range [][2]api.Version{{badForm, badRange}, {badForm, {}}, {{}, badForm}} {
		if got, e := ver.Compare(l[0], l[1]); got != 0 || e != api.ErrForm {
			t.Errorf("Compare(%v): %d, %d", l, got, e)
		}
	}
	if got, e := ver.Compare(badRange, badForm); got != 0 || e != api.ErrRange {
		t.Errorf("the first of two errors: %d, %d", got, e)
	}
}

func TestP3Next(t *testing.T) {
	for _, c := range []struct {
		text string
		next [3]string
	}{
		{"1.2.3", [3]string{"2.0.0", "1.3.0", "1.2.4"}},
		{"1.2.3-rc.1", [3]string{"2.0.0", "1.3.0", "1.2.3"}},
		{"0.0.0", [3]string{"1.0.0", "0.1.0", "0.0.1"}},
		{"1.0.0-0", [3]string{"2.0.0", "1.1.0", "1.0.0"}},
		{"999998.999998.999998", [3]string{"999999.0.0", "999998.999999.0", "999998.999998.999999"}},
		{"1.2.999999-a", [3]string{"2.0.0", "1.3.0", "1.2.999999"}},
		{"999999.1.1", [3]string{"", "999999.2.0", "999999.1.2"}},
		{"1.999999.1", [3]string{"2.0.0", "", "1.999999.2"}},
		{"1.1.999999", [3]string{"2.0.0", "1.2.0", ""}},
		{"999999.999999.0-a", [3]string{"", "", "999999.999999.0"}},
	} {
		for part, next := range c.next {
			var want api.Version
			wrong := api.ErrRange
			if next != "" {
				want, wrong = parse(t, next), api.OK
			}
			if got, e := ver.Next(parse(t, c.text), part); got != want || e != wrong {
				t.Errorf("Next(%s, %d): %v, %d", c.text, part, got, e)
			}
		}
	}
	for _, part := range []int{-1, 3, 1 << 62, -1 << 63} {
		if got, e := ver.Next(parse(t, "1.2.3-a"), part); got != (api.Version{}) || e != api.ErrRange {
			t.Errorf("Next(%d): %v, %d", part, got, e)
		}
		if got, e := ver.Next(badForm, part); got != (api.Version{}) || e != api.ErrForm {
			t.Errorf("Next of a wrong version (%d): %v, %d", part, got, e)
		}
	}
}
