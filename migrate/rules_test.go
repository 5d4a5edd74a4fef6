package migrate_test

import (
	"math"
	"math/rand/v2"
	"slices"
	"strings"
	"testing"

	"outfitter/api"
	"outfitter/migrate"
)

// The kinds of rules, and those that can be gone back.
var (
	allKinds  = []int{1, 2, 3, 4, 5, 6, 7, 8}
	backKinds = []int{api.RuleRename, api.RulePrefix, api.RuleMap, api.RuleSwap}
)

func TestP153CheckRule(t *testing.T) {
	for i, c := range []struct {
		r    api.Rule
		want api.Errno
	}{
		{api.Rule{Kind: api.RuleRename, Key: "a", To: "B/c"}, api.OK},
		{api.Rule{Kind: api.RulePrefix, Key: "a", To: "b"}, api.OK},
		{api.Rule{Kind: api.RuleCopy, Key: "a", To: "b"}, api.OK},
		{api.Rule{Kind: api.RuleSet, Key: "a", New: "x"}, api.OK},
		{api.Rule{Kind: api.RuleSet, Key: "a"}, api.OK},
		{api.Rule{Kind: api.RuleDefault, Key: "a", New: long(1000)}, api.OK},
		{api.Rule{Kind: api.RuleDefault, Key: longKey(200)}, api.OK},
		{api.Rule{Kind: api.RuleDrop, Key: "a"}, api.OK},
		{api.Rule{Kind: api.RuleMap, Key: "a", Old: "x", New: "y"}, api.OK},
		{api.Rule{Kind: api.RuleMap, Key: "a", New: "y"}, api.OK},
		{api.Rule{Kind: api.RuleSwap, Key: "a", Old: "x"}, api.OK},
		{api.Rule{Kind: api.RuleSwap, Key: "a", Old: long(1000), New: "a"}, api.OK},

		{api.Rule{}, api.ErrKind},
		{api.Rule{Kind: 9, Key: "a"}, api.ErrKind},
		{api.Rule{Kind: -1, Key: "/", To: "/", Old: "\n"}, api.ErrKind},
		{api.Rule{Kind: math.MinInt, Key: "a", To: "a"}, api.ErrKind},
		{api.Rule{Kind: math.MaxInt}, api.ErrKind},

		{api.Rule{Kind: api.RuleRename, To: "b"}, api.ErrName},
		{api.Rule{Kind: api.RuleRename, Key: "a"}, api.ErrName},
		{api.Rule{Kind: api.RuleRename}, api.ErrName},
		{api.Rule{Kind: api.RuleRename, Key: "a", To: "/b", Old: "x"}, api.ErrName},
		{api.Rule{Kind: api.RulePrefix, Key: "a/", To: "b", New: "x"}, api.ErrName},
		{api.Rule{Kind: api.RulePrefix, Key: "a", To: "a/"}, api.ErrName},
		{api.Rule{Kind: api.RuleCopy, Key: "a", To: longKey(201)}, api.ErrName},
		{api.Rule{Kind: api.RuleCopy, Key: "a b", To: "a b"}, api.ErrName},
		{api.Rule{Kind: api.RuleSet, New: "\n"}, api.ErrName},
		{api.Rule{Kind: api.RuleDefault, Key: "..", To: "b"}, api.ErrName},
		{api.Rule{Kind: api.RuleDrop, Key: "a//b", Old: "x"}, api.ErrName},
		{api.Rule{Kind: api.RuleMap, Key: "", Old: "x", New: "x"}, api.ErrName},
		{api.Rule{Kind: api.RuleSwap, Key: "\n"}, api.ErrName},

		// Fields that a kind does not use.
		{api.Rule{Kind: api.RuleRename, Key: "a", To: "a", Old: "x"}, api.ErrForm},
		{api.Rule{Kind: api.RuleRename, Key: "a", To: "b", New: "x"}, api.ErrForm},
		{api.Rule{Kind: api.RulePrefix, Key: "a", To: "a/b", Old: "x"}, api.ErrForm},
		{api.Rule{Kind: api.RulePrefix, Key: "a", To: "b", New: "x"}, api.ErrForm},
		{api.Rule{Kind: api.RuleCopy, Key: "a", To: "b", Old: "x"}, api.ErrForm},
		{api.Rule{Kind: api.RuleCopy, Key: "a", To: "a", New: "x"}, api.ErrForm},
		{api.Rule{Kind: api.RuleSet, Key: "a", To: "b", New: "x"}, api.ErrForm},
		{api.Rule{Kind: api.RuleSet, Key: "a", To: "a", New: "x"}, api.ErrForm},
		{api.Rule{Kind: api.RuleSet, Key: "a", To: "/"}, api.ErrForm},
		{api.Rule{Kind: api.RuleSet, Key: "a", Old: "x", New: "x"}, api.ErrForm},
		{api.Rule{Kind: api.RuleDefault, Key: "a", To: "b"}, api.ErrForm},
		{api.Rule{Kind: api.RuleDefault, Key: "a", Old: "x"}, api.ErrForm},
		{api.Rule{Kind: api.RuleDrop, Key: "a", To: "b"}, api.ErrForm},
		{api.Rule{Kind: api.RuleDrop, Key: "a", Old: "x"}, api.ErrForm},
		{api.Rule{Kind: api.RuleDrop, Key: "a", New: "x"}, api.ErrForm},
		{api.Rule{Kind: api.RuleMap, Key: "a", To: "b", Old: "x", New: "y"}, api.ErrForm},
		{api.Rule{Kind: api.RuleSwap, Key: "a", To: "a", Old: "x", New: "x"}, api.ErrForm},

		// Values that are none.
		{api.Rule{Kind: api.RuleSet, Key: "a", New: "\n"}, api.ErrForm},
		{api.Rule{Kind: api.RuleDefault, Key: "a", New: long(1001)}, api.ErrForm},
		{api.Rule{Kind: api.RuleMap, Key: "a", Old: "\x7f", New: "x"}, api.ErrForm},
		{api.Rule{Kind: api.RuleMap, Key: "a", Old: "x", New: "\x1f"}, api.ErrForm},
		{api.Rule{Kind: api.RuleMap, Key: "a", Old: "\t", New: "\t"}, api.ErrForm},
		{api.Rule{Kind: api.RuleSwap, Key: "a", Old: "ä", New: "x"}, api.ErrForm},
		{api.Rule{Kind: api.RuleSwap, Key: "a", Old: "x", New: long(1001)}, api.ErrForm},

		{api.Rule{Kind: api.RuleRename, Key: "a/b", To: "a/b"}, api.ErrConflict},
		{api.Rule{Kind: api.RulePrefix, Key: "a", To: "a"}, api.ErrConflict},
		{api.Rule{Kind: api.RuleCopy, Key: "a", To: "a"}, api.ErrConflict},
		{api.Rule{Kind: api.RuleRename, Key: "a", To: "A"}, api.OK},

		{api.Rule{Kind: api.RulePrefix, Key: "a", To: "a/b"}, api.ErrLoop},
		{api.Rule{Kind: api.RulePrefix, Key: "a/b", To: "a"}, api.ErrLoop},
		{api.Rule{Kind: api.RulePrefix, Key: "a/b/c/d", To: "a/b"}, api.ErrLoop},
		{api.Rule{Kind: api.RulePrefix, Key: "a", To: "ab"}, api.OK},
		{api.Rule{Kind: api.RulePrefix, Key: "a-b/c", To: "a"}, api.OK},
		{api.Rule{Kind: api.RulePrefix, Key: "a/b", To: "a/bc"}, api.OK},
		{api.Rule{Kind: api.RulePrefix, Key: "a/b", To: "b/a/b"}, api.OK},
		// Of other kinds this is nothing.
		{api.Rule{Kind: api.RuleRename, Key: "a", To: "a/b"}, api.OK},
		{api.Rule{Kind: api.RuleCopy, Key: "a/b", To: "a"}, api.OK},

		{api.Rule{Kind: api.RuleMap, Key: "a", Old: "x", New: "x"}, api.ErrConflict},
		{api.Rule{Kind: api.RuleMap, Key: "a"}, api.ErrConflict},
		{api.Rule{Kind: api.RuleSwap, Key: "a", Old: "x", New: "x"}, api.ErrConflict},
		{api.Rule{Kind: api.RuleSwap, Key: "a"}, api.ErrConflict},
		{api.Rule{Kind: api.RuleSwap, Key: "a", Old: "x", New: "X"}, api.OK},
	} {
		if e := migrate.CheckRule(c.r); e != c.want {
			t.Errorf("CheckRule %d: %d, not %d", i, e, c.want)
		}
		text, e := migrate.PrintRule(c.r)
		if e != c.want || (text == "") != (e != api.OK) {
			t.Errorf("PrintRule %d: %q, %d, not %d", i, text, e, c.want)
		}
		if b, e := migrate.Inverse(c.r); c.want != api.OK && (e != c.want || b != (api.Rule{})) {
			t.Errorf("Inverse %d: %v, %d, not %d", i, b, e, c.want)
		}
		if r, e := migrate.ParseRule(text); c.want == api.OK && (r != c.r || e != api.OK) {
			t.Errorf("ParseRule(%q): %v, %d", text, r, e)
		}
	}
}

func TestP153Texts(t *testing.T) {
	for text, want := range map[string]api.Rule{
		`rename a b/c`:           {Kind: api.RuleRename, Key: "a", To: "b/c"},
		`prefix a z/A_1.x`:       {Kind: api.RulePrefix, Key: "a", To: "z/A_1.x"},
		`copy a b`:               {Kind: api.RuleCopy, Key: "a", To: "b"},
		`set a ""`:               {Kind: api.RuleSet, Key: "a"},
		`set set "set set"`:      {Kind: api.RuleSet, Key: "set", New: "set set"},
		`set a " b  c "`:         {Kind: api.RuleSet, Key: "a", New: " b  c "},
		`set a "\"\\\\\"n\\n"`:   {Kind: api.RuleSet, Key: "a", New: `"\\"n\n`},
		`default a/b "1"`:        {Kind: api.RuleDefault, Key: "a/b", New: "1"},
		`drop drop`:              {Kind: api.RuleDrop, Key: "drop"},
		`map a "" "1"`:           {Kind: api.RuleMap, Key: "a", New: "1"},
		`map a "1" ""`:           {Kind: api.RuleMap, Key: "a", Old: "1"},
		`map a "\" \"" "\\ \\"`:  {Kind: api.RuleMap, Key: "a", Old: `" "`, New: `\ \`},
		`swap a "on" "off"`:      {Kind: api.RuleSwap, Key: "a", Old: "on", New: "off"},
		`swap a/b "off" " \"on"`: {Kind: api.RuleSwap, Key: "a/b", Old: "off", New: ` "on`},
	} {
		if r, e := migrate.ParseRule(text); r != want || e != api.OK {
			t.Errorf("ParseRule(%q): %v, %d", text, r, e)
		}
		if s, e := migrate.PrintRule(want); s != text || e != api.OK {
			t.Errorf("PrintRule(%v): %q, %d", want, s, e)
		}
	}
}

func TestP153ParseErrors(t *testing.T) {
	for want, texts := range map[api.Errno][]string{
		api.ErrSyntax: {
			"", " ", "\n", "a", "rename", "rename ", "rename a", "rename a ", "rename a b ", "rename a  b", "rename  a b",
			" rename a b", "rename a b c", "rename a b \"x\"", "rename  ", "rename\ta b", "rename a\tb", "Rename a b", "renamed a b", "ren a b",
			"prefix a", "prefix a b c", "copy a", "copy a  b", "drop", "drop ", "drop  a", "drop a ", "drop a b", " drop a", "dropa", "d a", "0 a",
			"drop\na",
			"set", "set a", "set a ", "set  \"x\"", "set \"x\"", "set a x", "set a  \"x\"", "set a\"x\"", "set a \"x\" ", "set a \"x\"\n", "set a \"x\"x",
			"set a \"x\" \"y\"", "set a \"", "set a \"x", "set a \"x\\", "set a \"x\\\"", "set a \"\\n\"", "set a \"\\x41\"", "set a x\"", "set a 'x'", "set a \"x\"\"",
			"set a b \"x\"", "set a\t\"x\"",
			"default a", "default a b", "default a \"x\" \"y\"",
			"map a", "map a \"1\"", "map a \"1\" ", "map a \"1\"\"2\"", "map a \"1\"  \"2\"", "map a \"1\" 2", "map a 1 \"2\"", "map a \"1\" \"2\" ", "map a \"1\" \"2\" \"3\"", "map a \"1\" \"2\\\"", "map a b \"1\" \"2\"", "map a \"1 \"2\"",
			"map \"1\" \"2\"",
			"swap a \"1\"", "swap a \"1\"\t\"2\"", "swap  \"1\" \"2\"",
			// What has not its form comes ahead of what is no key or value.
			"rename / ", "rename / b c", "drop / a", "set / x", "set a \"\n", "set a \"\n\" ", "map / \"\n\" 2", "map a \"1\" \"1\" ", "rename a a ",
		},
		api.ErrName: {
			"rename / b", "rename a /", "rename a/ b", "rename \" b", "rename a \"b\"", "rename a b\n", "rename a b\x00", "rename ä b", "drop a\n", "drop \"a\"", "drop a/", "drop " + long(41),
			"drop " + longKey(201), "drop a\\", "copy a b\xff", "set \" \"x\"", "set a/ \"\n\"", "default ? \"\"", "map .. \"1\" \"1\"", "swap a//b \"1\" \"2\"", "prefix a a/", "rename / /",
		},
		api.ErrForm: {
			"set a \"\n\"", "set a \"\t\"", "set a \"\x7f\"", "set a \"\xff\"", "set a \"" + long(1001) + "\"", "default a \"\x00\"", "map a \"\n\" \"2\"", "map a \"1\" \"\n\"", "map a \"\n\" \"\n\"", "swap a \"ä\" \"1\"",
			"map a \"" + long(1001) + "\" \"\"",
		},
		api.ErrConflict: {
			"rename a a", "prefix a/b a/b", "copy a a", "map a \"1\" \"1\"", "map a \"\" \"\"", "swap a \"\\\"\" \"\\\"\"", "swap a \"\" \"\"",
		},
		api.ErrLoop: {"prefix a a/b", "prefix a/b a", "prefix a/b/c a"},
	} {
		for _, text := range texts {
			if r, e := migrate.ParseRule(text); e != want || r != (api.Rule{}) {
				t.Errorf("ParseRule(%q): %v, %d, not %d", text, r, e, want)
			}
		}
	}
}

// TestP153Long has texts of 4000 bytes, and of one more.
func TestP153Long(t *testing.T) {
	r := api.Rule{Kind: api.RuleSwap, Key: longKey(200), Old: strings.Repeat(`"`, 1000), New: strings.Repeat(`\`, 850)}
	r.New += long(4000 - len("swap   ") - 200 - 2002 - 1702)
	text, e := migrate.PrintRule(r)
	if len(text) != 4000 || e != api.OK {
		t.Fatal(len(text), e)
	}
	if got, e := migrate.ParseRule(text); got != r || e != api.OK {
		t.Error(got, e)
	}
	// PrintRule has no such limit.
	r.New += "b"
	text, e = migrate.PrintRule(r)
	if len(text) != 4001 || e != api.OK {
		t.Fatal(len(text), e)
	}
	for _, text := range []string{text, long(4001), text + "\n", "drop / " + long(4000)} {
		if got, e := migrate.ParseRule(text); got != (api.Rule{}) || e != api.ErrLarge {
			t.Error(got, e)
		}
	}
	if got, e := migrate.ParseRule(long(4000)); got != (api.Rule{}) || e != api.ErrSyntax {
		t.Error(got, e)
	}
	r.New = strings.Repeat(`"`, 999) + "a"
	if text, e := migrate.PrintRule(r); len(text) != len("swap   ")+200+2002+2001 || e != api.OK {
		t.Error(len(text), e)
	}
}

func TestP155Inverse(t *testing.T) {
	for text, want := range map[string]string{
		`rename a b/c`:        `rename b/c a`,
		`prefix a/b c`:        `prefix c a/b`,
		`map a "1" ""`:        `map a "" "1"`,
		`map a/b "x y" "\""`:  `map a/b "\"" "x y"`,
		`swap a "1" "2"`:      `swap a "1" "2"`,
		`swap a/b "" "\\"`:    `swap a/b "" "\\"`,
		`rename rename a/b/c`: `rename a/b/c rename`,
	} {
		r, e := migrate.Inverse(rules(text)[0])
		if r != rules(want)[0] || e != api.OK {
			t.Errorf("%s: %v, %d", text, r, e)
		}
		if r, e := migrate.Inverse(r); r != rules(text)[0] || e != api.OK {
			t.Errorf("%s: %v, %d", want, r, e)
		}
	}
	for _, text := range []string{`copy a b`, `set a "1"`, `set a ""`, `default a "1"`, `drop a`} {
		if r, e := migrate.Inverse(rules(text)[0]); r != (api.Rule{}) || e != api.ErrState {
			t.Errorf("%s: %v, %d", text, r, e)
		}
	}
	// What is wrong comes ahead of what cannot be gone back.
	for want, r := range map[api.Errno]api.Rule{
		api.ErrKind:     {Key: "a"},
		api.ErrName:     {Kind: api.RuleDrop},
		api.ErrForm:     {Kind: api.RuleSet, Key: "a", To: "b"},
		api.ErrConflict: {Kind: api.RuleCopy, Key: "a", To: "a"},
		api.ErrLoop:     {Kind: api.RulePrefix, Key: "a", To: "a/b"},
	} {
		if b, e := migrate.Inverse(r); b != (api.Rule{}) || e != want {
			t.Errorf("%v: %v, %d", r, b, e)
		}
	}
}

func TestP155InverseAll(t *testing.T) {
	l := rules(`rename a b`, `map b "1" "2"`, `swap b "2" "3"`, `prefix b c`, `rename a b`)
	if back, e := migrate.InverseAll(l); !slices.Equal(back, rules(`rename b a`, `prefix c b`, `swap b "2" "3"`, `map b "2" "1"`, `rename b a`)) || e != api.OK {
		t.Error(back, e)
	}
	if back, e := migrate.InverseAll(nil); len(back) != 0 || e != api.OK {
		t.Error(back, e)
	}
	most := slices.Repeat(rules(`rename a b`), api.MaxRules)
	if back, e := migrate.InverseAll(most); !slices.Equal(back, slices.Repeat(rules(`rename b a`), api.MaxRules)) || e != api.OK {
		t.Error(len(back), e)
	}
	with := func(l []api.Rule, more ...api.Rule) []api.Rule { return append(slices.Clone(l), more...) }
	wrong := api.Rule{Kind: api.RuleDrop, Key: "/"}
	for i, c := range []struct {
		l    []api.Rule
		want api.Errno
	}{
		{with(most, most[0]), api.ErrLarge},
		{with(rules(`drop a`), most...), api.ErrLarge},
		{with(most, wrong), api.ErrLarge},
		{with(most[1:], wrong), api.ErrName},
		{with(most[2:], rules(`drop a`)[0], wrong), api.ErrState},
		{with(most[2:], wrong, rules(`drop a`)[0]), api.ErrName},
		{with(l, api.Rule{}), api.ErrKind},
		{rules(`set a "1"`), api.ErrState},
	} {
		if back, e := migrate.InverseAll(c.l); len(back) != 0 || e != c.want {
			t.Errorf("InverseAll %d: %v, %d, not %d", i, back, e, c.want)
		}
	}
}

// TestP155Chance sees that the inverse of an inverse is the rule, and that it is right.
func TestP155Chance(t *testing.T) {
	rnd := rand.New(rand.NewPCG(3, 4))
	for range 20000 {
		r := guessRule(rnd, allKinds...)
		b, e := migrate.Inverse(r)
		if slices.Contains(backKinds, r.Kind) != (e == api.OK) || e != api.OK && e != api.ErrState {
			t.Fatal(r, b, e)
		}
		if e != api.OK {
			continue
		}
		if a, f := migrate.Inverse(b); a != r || f != api.OK {
			t.Fatal(r, b, a, f)
		}
	}
}
