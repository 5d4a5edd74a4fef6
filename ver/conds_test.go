package ver_test

import (
	"slices"
	"strings"
	"testing"

	"outfitter/api"
	"outfitter/ver"
)

func TestP7CheckCondForms(t *testing.T) {
	args := []api.Cond{always()}
	for i, c := range []struct {
		c    api.Cond
		want api.Errno
	}{
		{always(), api.OK},
		{api.Cond{Kind: api.CondTrue, Name: "a"}, api.ErrForm},
		{api.Cond{Kind: api.CondTrue, Value: "a"}, api.ErrForm},
		{api.Cond{Kind: api.CondTrue, Args: args}, api.ErrForm},
		{api.Cond{Kind: api.CondTrue, Args: []api.Cond{}}, api.OK},

		{api.Cond{Kind: api.CondFact, Name: "os", Value: "unix"}, api.OK},
		{api.Cond{Kind: api.CondFact, Name: "os"}, api.OK},
		{api.Cond{Kind: api.CondFact, Name: "os", Args: args}, api.ErrForm},
		{api.Cond{Kind: api.CondFact, Value: "unix"}, api.ErrName},
		{api.Cond{Kind: api.CondFact, Name: "a/b", Value: "unix"}, api.ErrName},
		{api.Cond{Kind: api.CondFact, Name: "OS", Value: "\n"}, api.ErrName},
		{api.Cond{Kind: api.CondFact, Name: "os", Value: "\n"}, api.ErrForm},
		{api.Cond{Kind: api.CondFact, Name: "os", Value: long(1000)}, api.OK},
		{api.Cond{Kind: api.CondFact, Name: "os", Value: long(1001)}, api.ErrForm},

		{api.Cond{Kind: api.CondSetting, Name: "A/b_c", Value: "1"}, api.OK},
		{api.Cond{Kind: api.CondSetting, Name: "a", Args: args}, api.ErrForm},
		{api.Cond{Kind: api.CondSetting, Value: "1"}, api.ErrName},
		{api.Cond{Kind: api.CondSetting, Name: "a//b", Value: "\n"}, api.ErrName},
		{api.Cond{Kind: api.CondSetting, Name: "a/b", Value: "\n"}, api.ErrForm},

		{api.Cond{Kind: api.CondHas, Name: "A/b_c"}, api.OK},
		{api.Cond{Kind: api.CondHas, Name: "a", Value: "1"}, api.ErrForm},
		{api.Cond{Kind: api.CondHas, Name: "a", Args: args}, api.ErrForm},
		{api.Cond{Kind: api.CondHas, Name: "/"}, api.ErrName},
		{api.Cond{Kind: api.CondHas, Name: "/", Value: "1"}, api.ErrForm},

		{api.Cond{Kind: api.CondVersion, Name: "os", Value: "^1.0.0"}, api.OK},
		{api.Cond{Kind: api.CondVersion, Name: "os", Value: "^1.0.0", Args: args}, api.ErrForm},
		{api.Cond{Kind: api.CondVersion, Name: "a/b", Value: "?"}, api.ErrName},
		{api.Cond{Kind: api.CondVersion, Name: "os", Value: "\n"}, api.ErrForm},
		{api.Cond{Kind: api.CondVersion, Name: "os", Value: long(1001)}, api.ErrForm},
		{api.Cond{Kind: api.CondVersion, Name: "os", Value: ""}, api.ErrSyntax},
		{api.Cond{Kind: api.CondVersion, Name: "os", Value: "=1000000.0.0"}, api.ErrRange},
		{api.Cond{Kind: api.CondVersion, Name: "os", Value: "=1.0.0-A"}, api.ErrForm},
		{api.Cond{Kind: api.CondVersion, Name: "os", Value: "*, *"}, api.ErrOrder},

		{cond(api.CondNot, always()), api.OK},
		{cond(api.CondNot), api.ErrForm},
		{cond(api.CondNot, always(), always()), api.ErrForm},
		{api.Cond{Kind: api.CondNot, Name: "a", Args: args}, api.ErrForm},
		{api.Cond{Kind: api.CondNot, Value: "a", Args: args}, api.ErrForm},

		{cond(api.CondAll), api.OK},
		{cond(api.CondAny), api.OK},
		{cond(api.CondAll, always(), always()), api.OK},
		{cond(api.CondAny, always(), always()), api.OK},
		{api.Cond{Kind: api.CondAll, Name: "a"}, api.ErrForm},
		{api.Cond{Kind: api.CondAll, Value: "a"}, api.ErrForm},
		{api.Cond{Kind: api.CondAny, Name: "a"}, api.ErrForm},
		{api.Cond{Kind: api.CondAny, Value: "a"}, api.ErrForm},

		{api.Cond{}, api.ErrKind},
		{api.Cond{Kind: 9}, api.ErrKind},
		{api.Cond{Kind: -1, Name: "a", Value: "\n", Args: args}, api.ErrKind},
	} {
		if e := ver.CheckCond(c.c); e != c.want {
			t.Errorf("CheckCond %d (%v): %d", i, c.c, e)
		}
	}
}

func TestP7CheckCondOrder(t *testing.T) {
	kind := api.Cond{}
	form := api.Cond{Kind: api.CondTrue, Name: "a"}
	name := api.Cond{Kind: api.CondHas}
	for i, c := range []struct {
		c    api.Cond
		want api.Errno
	}{
		// How many there are comes first: itself and all within it.
		{cond(api.CondAll, many(99, always())...), api.OK},
		{cond(api.CondAll, many(100, always())...), api.ErrLarge},
		{cond(api.CondAll, many(99, kind)...), api.ErrKind},
		{cond(api.CondAll, many(100, kind)...), api.ErrLarge},
		{cond(api.CondAll, many(49, cond(api.CondNot, always()))...), api.OK},
		{cond(api.CondAll, many(50, cond(api.CondNot, always()))...), api.ErrLarge},
		{api.Cond{Args: many(100, kind)}, api.ErrLarge},
		// Then each part ahead of those within it.
		{api.Cond{Kind: api.CondAll, Name: "a", Args: []api.Cond{kind}}, api.ErrForm},
		{cond(api.CondAll, cond(api.CondNot, name), kind), api.ErrName},
		{cond(api.CondAll, cond(api.CondNot, kind), name), api.ErrKind},
		{cond(api.CondAll, cond(api.CondNot, form, kind), name), api.ErrForm},
		{cond(api.CondAny, always(), name, form), api.ErrName},
		// Then how deep they are.
		{nested(20, always()), api.OK},
		{nested(21, always()), api.ErrLarge},
		{nested(21, name), api.ErrName},
		{nested(25, kind), api.ErrKind},
		{cond(api.CondAll, nested(21, always()), kind), api.ErrKind},
		{cond(api.CondAll, nested(20, always()), always()), api.ErrLarge},
		{cond(api.CondAll, nested(19, always()), always()), api.OK},
		{nested(99, always()), api.ErrLarge},
		{nested(99, kind), api.ErrKind},
		{nested(100, kind), api.ErrLarge},
	} {
		if e := ver.CheckCond(c.c); e != c.want {
			t.Errorf("CheckCond %d: %d", i, e)
		}
	}
}

func TestP8Print(t *testing.T) {
	fact := api.Cond{Kind: api.CondFact, Name: "os", Value: `a "b" \ c`}
	for want, c := range map[string]api.Cond{
		"always":                            always(),
		`fact os = "a \"b\" \\ c"`:          fact,
		`fact os = ""`:                      {Kind: api.CondFact, Name: "os"},
		`fact os = "\\\""`:                  {Kind: api.CondFact, Name: "os", Value: `\"`},
		`setting a/B = "(and)"`:             {Kind: api.CondSetting, Name: "a/B", Value: "(and)"},
		"has a/B":                           {Kind: api.CondHas, Name: "a/B"},
		"has and":                           {Kind: api.CondHas, Name: "and"},
		`version os in "~1.0.0, 2.0.0"`:     {Kind: api.CondVersion, Name: "os", Value: "~1.0.0, 2.0.0"},
		"not always":                        cond(api.CondNot, always()),
		"not not always":                    nested(2, always()),
		"(and)":                             cond(api.CondAll),
		"(or)":                              cond(api.CondAny),
		"(and always)":                      cond(api.CondAll, always()),
		"(or not always)":                   cond(api.CondAny, nested(1, always())),
		"(always and always)":               cond(api.CondAll, always(), always()),
		"(always or (and) or (or (or)))":    cond(api.CondAny, always(), cond(api.CondAll), cond(api.CondAny, cond(api.CondAny))),
		"not (has a and has b and has c/d)": nested(1, cond(api.CondAll, api.Cond{Kind: api.CondHas, Name: "a"}, api.Cond{Kind: api.CondHas, Name: "b"}, api.Cond{Kind: api.CondHas, Name: "c/d"})),
	} {
		if got, e := ver.PrintCond(c); got != want || e != api.OK {
			t.Errorf("PrintCond(%v): %q, %d", c, got, e)
		}
		if got := parseCond(t, want); !same(got, c) {
			t.Errorf("ParseCond(%q): %v", want, got)
		}
	}
	for want, c := range map[api.Errno]api.Cond{
		api.ErrKind:  {},
		api.ErrForm:  cond(api.CondNot),
		api.ErrName:  {Kind: api.CondHas},
		api.ErrLarge: nested(21, always()),
	} {
		if text, e := ver.PrintCond(c); text != "" || e != want {
			t.Errorf("PrintCond(%v): %q, %d", c, text, e)
		}
	}
}

func same(a, b api.Cond) bool {
	return a.Kind == b.Kind && a.Name == b.Name && a.Value == b.Value && slices.EqualFunc(a.Args, b.Args, same)
}

func TestP8Blanks(t *testing.T) {
	for want, l := range map[string][]string{
		"always":                     {" always", "always ", "\t always \t"},
		`fact os = "a  b"`:           {`fact os="a  b"`, `fact os ="a  b"`, `fact os= "a  b"`, "fact\tos\t=\t\"a  b\"", `  fact   os  =  "a  b"  `},
		`version os in "*"`:          {"version  os\t in \t\"*\""},
		"has not":                    {"has  not", "\thas\tnot "},
		"not (and)":                  {"not(and)", "not  ( and )", "not\t(and\t)"},
		"(has a or has b)":           {"( has a or has b )", "(has  a  or\thas b)", "\t(has a or has b)\t"},
		"(or (has a or has b))":      {"(or(has a or has b))", "( or ( has a or has b ) )"},
		"((and) and (or))":           {"((and)and(or))", "( (and) and(or) )"},
		"(and (not (or) and (or)))":  {"(and(not(or)and(or)))"},
		`(fact a = "1" and always)`:  {`(fact a="1" and always)`, "( fact a = \"1\"\tand  always )"},
		`(setting a = "1" or (and))`: {`(setting a="1" or(and))`},
	} {
		for _, text := range l {
			if got, e := ver.PrintCond(parseCond(t, text)); got != want || e != api.OK {
				t.Errorf("ParseCond(%q): %q, %d", text, got, e)
			}
		}
	}
}

// TestP8Places marks with a ^ what cannot stand where it stands.
func TestP8Places(t *testing.T) {
	for _, marked := range []string{
		"^", "  ^", "\t^", "^x", " ^x", "^Always", "^alwaysalways", "always ^always", "always ^x", "always ^)", "always ^(", "always ^=", "always ^\"\"",
		"^\n", "^always\n", "^)", "^=", "^\"a\"", "^\"a", "^and", "^or", "^in", "(and)^)",
		"fact^", "fact ^", "fact ^= \"a\"", "fact ^(", "fact ^\"os\" = \"a\"", "fact os^", "fact os ^", "fact os ^is \"a\"", "fact os ^\"a\"", "fact os ^(",
		"fact os =^", "fact os = ^", "fact os = ^a", "fact os = ^= \"a\"", "fact os = ^)", "fact os = \"a\" ^\"b\"", "fact os = \"a\" ^and always", "fact os = \"a\"^)",
		"fact os = ^a\"b\"", "^factos = \"a\"", "fact a ^b = \"a\"",
		"setting^", "setting a ^in \"b\"", "setting a = ^b", "setting ^=", "has^", "has ^", "has ^\"a\"", "has ^(a)", "has ^=", "has a ^b", "has a ^= \"b\"",
		"version^", "version in^", "version in in^", "version a ^= \"*\"", "version a ^\"*\"", "version a in^", "version a in ^*", "version a in ^= \"*\"", "version a ^is \"*\"",
		"not^", "not ^", "not ^)", "not ^and", "not always ^always", "not ^x", "not not^", "not (^)",
		// Texts in quotes that have no end, or another byte behind \ than they may.
		"fact os = ^\"", "fact os = ^\"abc", "fact os = ^\"abc ) ", "fact os = ^\"abc\\\"", "fact os = ^\"abc\\", "fact os = ^\"abc\\n\"", "fact os = ^\"\\a", "fact os=^\"a\\ b\" always",
		"has a ^\"", "version a in ^\"*", "fact os = \"a\" ^\"b",
		"(^", "( ^", "(^)", "( ^)", "(^x)", "(always^", "(always ^", "(always^)", "(always ^always)", "(always ^x)", "(always ^\"and\" always)", "(always ^= always)",
		"(always and^", "(always and ^)", "(always and always^", "(always and always ^or always)", "(always or always ^and always)", "(always or always or always ^and always)",
		"(and^", "(and ^", "(and always^", "(and always ^and always)", "(and always ^or always)", "(and ^and always)", "(and ^or)", "(or ^or)", "(or ^and)",
		"(or always ^always)", "(and)^(", "(and) ^always", "(and) ^)", "(^\"and\")", "((always^) and always)", "(always and (or always^",
		"(^= and always)", "^\"always\"", "^\"not\" always", "(^\"always\")", "fact os = ^always", "(fact os ^and always)", "(has a or fact os = ^or always)", "(fact ^= and always)",
		"((and)^)", "(not always^)", "(always and not^)",
	} {
		text, behind, ok := strings.Cut(marked, "^")
		if !ok {
			t.Fatal(marked)
		}
		c, at, e := ver.ParseCond(text + behind)
		if !same(c, api.Cond{}) || at != len(text) || e != api.ErrSyntax {
			t.Errorf("ParseCond(%q): %v, %d, %d", marked, c, at, e)
		}
	}
}

func TestP8Within(t *testing.T) {
	open, not := strings.Repeat("(", 100), strings.Repeat("not ", 100)
	mixed := strings.Repeat("not(and ", 50)
	for i, c := range []struct {
		text string
		at   int
		want api.Errno
	}{
		{open + "(", 100, api.ErrSyntax},
		{open + " (always", 101, api.ErrSyntax},
		{open + "not always", 100, api.ErrSyntax},
		{open + "always", 106, api.ErrSyntax},
		{not + "not always", 400, api.ErrSyntax},
		{not + "not", 400, api.ErrSyntax},
		{not + "(and)", 400, api.ErrSyntax},
		{not + "x", 400, api.ErrSyntax},
		{not + "always", 0, api.ErrLarge},
		{mixed + "not", 400, api.ErrSyntax},
		{mixed + "(or)", 400, api.ErrSyntax},
		{mixed + "always" + strings.Repeat(")", 50), 0, api.ErrLarge},
		// What has been left does not count.
		{"(" + strings.Repeat("not(or) and ", 33) + "(or))", 0, api.OK},
		{"(" + strings.Repeat("not(or) and ", 60) + "x", 721, api.ErrSyntax},
		{"(" + strings.Repeat("not(or) and ", 60) + "(or))", 0, api.ErrLarge},
	} {
		if _, at, e := ver.ParseCond(c.text); at != c.at || e != c.want {
			t.Errorf("ParseCond %d: %d at %d", i, e, at)
		}
	}
}

func TestP8ParseErrors(t *testing.T) {
	for want, l := range map[api.Errno][]string{
		api.ErrLarge: {
			strings.Repeat(" ", 3995) + "always", strings.Repeat("(", 4001), strings.Repeat("not ", 21) + "always",
			"(always" + strings.Repeat(" and always", 99) + ")",
		},
		api.ErrName:   {`fact OS = "a"`, `fact a/b = "a"`, "has a//b", "has [a]", `setting . = "a"`, `version 1 in "?"`, "(not has ä and fact A = \"\t\")", "has has\n"},
		api.ErrForm:   {"fact os = \"\t\"", "setting a = \"ä\"", `fact os = "` + long(1001) + `"`, `version os in "1.0.0-A"`, "version os in \"\n\""},
		api.ErrSyntax: {`version os in ""`, `version os in "1.0"`},
		api.ErrRange:  {`version os in "^999999.0.0"`},
		api.ErrOrder:  {`(always and version os in "2.0.0, 1.0.0")`},
	} {
		for _, text := range l {
			if c, at, e := ver.ParseCond(text); !same(c, api.Cond{}) || at != 0 || e != want {
				t.Errorf("ParseCond(%q): %v, %d, %d", text, c, at, e)
			}
		}
	}
	for _, text := range []string{strings.Repeat(" ", 3994) + "always", "(always" + strings.Repeat(" and always", 98) + ")"} {
		if _, at, e := ver.ParseCond(text); at != 0 || e != api.OK {
			t.Errorf("ParseCond(%q): %d, %d", text, at, e)
		}
	}
}
