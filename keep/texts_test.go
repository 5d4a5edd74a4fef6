package keep_test

import (
	"strings"
	"testing"

	"outfitter/api"
	"outfitter/disk"
	"outfitter/keep"
)

// someText is that of the keep some.
func someText() string {
	return strings.Join([]string{
		`app program bin/app ` + disk.SumOf("rone"),
		`app text etc/conf ` + disk.SumOf("-a\nb\n") + ` "a\nb\n"`,
		`app shared lib/x ` + disk.SumOf("-x"),
		`app data var/app ` + disk.SumOf("-1"),
		`app setting size ` + disk.SumOf("-2"),
		`app service appd ` + disk.SumOf("-bin/app"),
		`base text etc/base ` + disk.SumOf("r") + ` ""`,
		`base shared lib/x ` + disk.SumOf("-x"),
		`base data lib/y ` + disk.SumOf("-"),
		`base setting a/size ` + disk.SumOf("-"),
		`base service based ` + disk.SumOf("abin/app"),
		`c.d shared lib/x ` + disk.SumOf("-x"),
	}, "\n") + "\n"
}

func TestP177Print(t *testing.T) {
	odd := "\x00 \"\\\xff \n\n"
	for text, k := range map[string]api.Keep{
		"":         {},
		someText(): some(),
		"a text p " + disk.SumOf("-"+odd) + " \"\\x00 \\\"\\\\\\xff \\n\\n\"\n": {Held: []api.Held{{Owner: "a", Kind: api.ItemText, Path: "p", Sum: disk.SumOf("-" + odd), Base: odd}}},
		"a setting P/q 0123456789abcdef\n":                                      {Held: []api.Held{{Owner: "a", Kind: api.ItemSetting, Path: "P/q", Sum: sum}}},
	} {
		if s, e := keep.Print(k); s != text || e != api.OK {
			t.Errorf("Print: %q, %d, not %q", s, e, text)
		}
		got, line, e := keep.Parse(text)
		if line != 0 || e != api.OK {
			t.Errorf("Parse(%q): %d, %d", text, line, e)
		}
		isKeep(t, text, got, k)
	}
	for i, k := range []api.Keep{
		wrongKeep(),
		{Held: append(some().Held, api.Held{Owner: "z", Kind: api.ItemData, Path: "z"})},
		{Held: append(some().Held, some().Held[0])},
		{Held: append(some().Held, api.Held{Owner: "z", Kind: api.ItemData, Path: "lib/x", Sum: sum})},
		{Held: make([]api.Held, api.MaxHeld+1)},
	} {
		want := []api.Errno{api.ErrKind, api.ErrForm, api.ErrOrder, api.ErrConflict, api.ErrLarge}[i]
		if s, e := keep.Print(k); s != "" || e != want {
			t.Errorf("Print %d: %q, %d, not %d", i, s, e, want)
		}
	}
}

// TestP177Syntax has texts and the lines with ErrSyntax.
func TestP177Syntax(t *testing.T) {
	const data = "a data p 0123456789abcdef"
	text := "a text q " + disk.SumOf("-x") + ` "x"`
	for s, want := range map[string]int{
		"\n": 0, "x\n": 0, " \n": 0, "a\n": 0, "a data\n": 0, "a data p\n": 0, "a data p \n": 0, "    \n": 0, "   ": 0,
		data: 0, " " + data + "\n": 0, data + " \n": 0, data + " x\n": 0, data + " \"\"\n": 0, data + "  \n": 0, data + " x y\n": 0,
		"a  data p 0123456789abcdef\n": 0, "a data  p 0123456789abcdef\n": 0, "a data p  0123456789abcdef\n": 0,
		" data p 0123456789abcdef\n": 0, "a  p 0123456789abcdef\n": 0, "a data  0123456789abcdef\n": 0,
		"a file p 0123456789abcdef\n": 0, "a Data p 0123456789abcdef\n": 0, "a dat p 0123456789abcdef\n": 0, "a 4 p 0123456789abcdef\n": 0,
		"a data\tp 0123456789abcdef\n": 0, "a\tdata p 0123456789abcdef\n": 0, "a datas p 0123456789abcdef\n": 0,
		"a services p 0123456789abcdef\n": 0, "a settings p 0123456789abcdef \"\"\n": 0,
		text: 0, text + " \n": 0, text + " x\n": 0, text + "\"\n": 0, text + " \"\"\n": 0, text + "\r\n": 0,
		strings.TrimSuffix(text, ` "x"`) + "\n": 0, strings.TrimSuffix(text, `"x"`) + "\n": 0, strings.TrimSuffix(text, `"`) + "\n": 0,
		strings.TrimSuffix(text, `"x"`) + "x\n": 0, strings.TrimSuffix(text, `"x"`) + "\"\\x41\"\n": 0, strings.TrimSuffix(text, `"x"`) + " \"x\"\n": 0,
		strings.TrimSuffix(text, `"x"`) + "\"\t\"\n": 0, `a text q "x"` + "\n": 0, `a text q "" ` + "\n": 0,

		data + "\n\n":                            1,
		data + "\n" + text:                       1,
		data + "\n" + text + "\n" + data + " \n": 2,
		data + "\n" + text + "\n ":               2,
		// Ahead of Check's errors, and the first line of them.
		"? data ? ?\n? data ? ?\n? datum ? ?\n\n": 2,
		strings.Repeat(data+"\n", 5001) + "x\n":   5001,
	} {
		if k, line, e := keep.Parse(s); len(k.Held) != 0 || line != want || e != api.ErrSyntax {
			t.Errorf("Parse(%.200q): %v, %d, %d", s, k, line, e)
		}
	}
}

// TestP177Check has texts of the right form: what the words are is looked at by Check.
func TestP177Check(t *testing.T) {
	const data = "a data p 0123456789abcdef\n"
	for s, want := range map[string]api.Errno{
		data:                                    api.OK,
		"A data p 0123456789abcdef\n":           api.ErrName,
		"\t data p 0123456789abcdef\n":          api.ErrName,
		"\xff data p 0123456789abcdef\n":        api.ErrName,
		"\"\" data p 0123456789abcdef\n":        api.ErrName,
		"a data / 0123456789abcdef\n":           api.ErrName,
		"a service a/b 0123456789abcdef\n":      api.ErrName,
		"a setting a/b 0123456789abcdef\n":      api.OK,
		"a data p 0123456789abcdeF\n":           api.ErrForm,
		"a data p 0123456789abcde\n":            api.ErrForm,
		"a data p \"\"\n":                       api.ErrForm,
		"a data p 0123456789abcdef\r\n":         api.ErrForm,
		"a text p 0123456789abcdef \"\"\n":      api.ErrForm,
		"a text p x \"\"\n":                     api.ErrForm,
		data + data:                             api.ErrOrder,
		data + "a data o 0123456789abcdef\n":    api.ErrOrder,
		data + "b data p 0123456789abcdef\n":    api.ErrConflict,
		data + "b setting p 0123456789abcdef\n": api.OK,
		strings.Repeat(data, 5001):              api.ErrLarge,
		strings.Repeat(data, 5000):              api.ErrOrder,
		"a data " + long(1<<20) + " x\n":        api.ErrName,
	} {
		if k, line, e := keep.Parse(s); (len(k.Held) == 0) != (want != api.OK) || line != 0 || e != want {
			t.Errorf("Parse(%.200q): %v, %d, %d", s, k, line, e)
		}
	}
}

// TestP177Large has texts of as many bytes as there may be.
func TestP177Large(t *testing.T) {
	const most = 4 * api.MaxText
	text := func(path, base string) api.Held {
		return api.Held{Owner: "a", Kind: api.ItemText, Path: path, Sum: disk.SumOf("-" + base), Base: base}
	}
	// A zero needs four bytes.
	first := text("p", strings.Repeat("\x00", 1<<19))
	short, _ := keep.Print(api.Keep{Held: []api.Held{first}})
	rest := most - len(short) - len(`a text q 0123456789abcdef ""`+"\n")
	for n, want := range map[int]api.Errno{rest: api.OK, rest + 1: api.ErrLarge, most: api.ErrLarge, 1 << 24: api.ErrLarge} {
		k := api.Keep{Held: []api.Held{first, text("q", long(n))}}
		s, e := keep.Print(k)
		if e != want || want == api.OK && len(s) != most || want != api.OK && s != "" {
			t.Error(n, len(s), e)
		}
		if want != api.OK {
			continue
		}
		got, line, e := keep.Parse(s)
		if line != 0 || e != api.OK {
			t.Error(line, e)
		}
		isKeep(t, n, got, k)
		if got, line, e := keep.Parse(s + "\n"); len(got.Held) != 0 || line != 0 || e != api.ErrLarge {
			t.Error(line, e)
		}
	}
	// Check's errors are ahead.
	wrong := api.Keep{Held: []api.Held{text("q", long(most)), text("p", "")}}
	if s, e := keep.Print(wrong); s != "" || e != api.ErrOrder {
		t.Error(len(s), e)
	}
	if k, line, e := keep.Parse(long(most)); len(k.Held) != 0 || line != 0 || e != api.ErrSyntax {
		t.Error(line, e)
	}
	if k, line, e := keep.Parse(long(most + 1)); len(k.Held) != 0 || line != 0 || e != api.ErrLarge {
		t.Error(line, e)
	}
}
