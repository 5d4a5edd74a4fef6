package pack_test

import (
	"math/rand/v2"
	"slices"
	"strconv"
	"strings"
	"testing"

	"outfitter/api"
	"outfitter/pack"
)

func TestP48Print(t *testing.T) {
	for i, c := range []struct {
		p    api.Package
		text string
	}{
		{some(), someText},
		{small(part("a")), "package small 0.0.0 \"\"\ncomponent a \"\"\n"},
		{small(part("b", "a"), part("a")), "package small 0.0.0 \"\"\ncomponent b \"\"\nneeds a\ncomponent a \"\"\n"},
		// What could be taken for something else.
		{small(having("a", service("auto", "auto"), data("auto", ""), data("runs", ""), api.Item{Kind: api.ItemService, Service: api.Service{Name: "b", Path: "auto"}})),
			"package small 0.0.0 \"\"\ncomponent a \"\"\nservice auto auto auto\nfile data auto cbf29ce484222325 0\nfile data runs cbf29ce484222325 0\nservice b auto\n"},
	} {
		if s, e := pack.Print(c.p); s != c.text || e != api.OK {
			t.Errorf("Print %d: %q, %d", i, s, e)
		}
		if p, line, e := pack.Parse(c.text); !same(p, bare(c.p)) || line != 0 || e != api.OK {
			t.Errorf("Parse(%q): %v, %d, %d", c.text, p, line, e)
		}
	}
	for _, f := range faults() {
		p := some()
		f.do(&p)
		if s, e := pack.Print(p); s != "" || e != f.want {
			t.Errorf("Print %s: %q, %d", f.what, s, e)
		}
	}
}

const (
	top  = "package a 1.0.0 \"\"\n"
	base = top + "component a \"\"\n"
	zero = "cbf29ce484222325"
)

// TestP48Read has texts that Print does not write.
func TestP48Read(t *testing.T) {
	for text, do := range map[string]func(p *api.Package){
		base:                     func(p *api.Package) {},
		base + "when always\n":   func(p *api.Package) {},
		base + "when  always \n": func(p *api.Package) {},
		base + "when\tx\n":       nil,
		base + "when (  fact os=\"x\"and always)\n": func(p *api.Package) {
			p.Components[0].When = api.Cond{Kind: api.CondAll, Args: []api.Cond{fact("os", "x"), always}}
		},
		top + "need b ^1.0.0\ncomponent a \"\"\n": func(p *api.Package) {
			p.Needs = []api.Need{{Name: "b", Range: some().Needs[0].Range}}
			p.Needs[0].Range.Spans = p.Needs[0].Range.Spans[:1]
		},
		base + "move 0.0.0-a, ~2.1.0 1.0.0\n": func(p *api.Package) {
			p.Moves = []api.Move{{From: api.Range{Spans: []api.Span{
				{HasFrom: true, From: api.Version{Early: "a"}, HasTo: true, To: api.Version{Minor: 1}},
				{HasFrom: true, From: api.Version{Major: 2, Minor: 1}, HasTo: true, To: api.Version{Major: 2, Minor: 2}},
			}}, To: number(1)}}
		},
		// Of files only the form of what is told of their Data is looked at.
		base + "file text b 0000000000000000 65536 runs\n": func(p *api.Package) {
			p.Components[0].Items = []api.Item{textual("b", "")}
			p.Components[0].Items[0].File.Runs = true
		},
	} {
		p, line, e := pack.Parse(text)
		if do == nil {
			if !isNone(p) || line != 2 || e != api.ErrSyntax {
				t.Errorf("Parse(%q): %v, %d, %d", text, p, line, e)
			}
			continue
		}
		want := small(part("a"))
		want.Name, want.Version = "a", number(1)
		do(&want)
		if !same(p, want) || line != 0 || e != api.OK {
			t.Errorf("Parse(%q): %v, %d, %d", text, p, line, e)
		}
	}
	// A package of nine files that are as large as they may be has too many bytes; its text does not tell them.
	text := base
	for i := range 9 {
		text += "file data " + numbered(i) + " " + zero + " 65536\n"
	}
	if p, line, e := pack.Parse(text); len(p.Components) != 1 || line != 0 || e != api.OK {
		t.Error(line, e)
	}
}

// TestP48Lines has lines behind a good text, all with ErrSyntax.
func TestP48Lines(t *testing.T) {
	for _, line := range []string{
		"", " ", "x", "x y", "\t", "package", "package a 1.0.0 \"\"", "need b *", "bar b *", "component", "component ", "component  \"\"", "component b", "component b ", "component \"\"",
		"component b x", "component b \"", "component b \"\\a\"", "component b \"\\", "component b \"\"\"", "component b \"\" ", "component b \"\"default", "component b \"\" always default",
		"component b \"\" default default", "component b \"\"  default", "component b \"\" x", "component b \"\" default ", "component  b \"\"", "component b  \"\"", "component b c \"\"", " component b \"\"",
		"Component b \"\"", "component\tb \"\"", "component b \"\"\r", "component b \"\" alwaysdefault",
		"when", "when ", "when x", "when always x", "when has", "when (always)", "whenalways",
		"needs", "needs ", "needs  b", "needs b ", "needs b c", "needsb",
		"file", "file ", "file data", "file data b", "file data b " + zero, "file data b " + zero + " ", "file data b " + zero + " 0 ", "file data b " + zero + " 0 x", "file data b " + zero + " 0 Runs",
		"file data b " + zero + " 0 runs ", "file data b " + zero + " 0 runs runs", "file data b " + zero + " 0  runs", "file data b " + zero + " runs", "file data b " + zero + "  0", "file data b " + zero + " 0runs",
		"file data  " + zero + " 0", "file  b " + zero + " 0", "file Data b " + zero + " 0", "file 4 b " + zero + " 0", "file setting b " + zero + " 0", "file  data b " + zero + " 0", "file data b c " + zero + " 0",
		"file data b " + zero + " 65537", "file data b " + zero + " 00", "file data b " + zero + " 01", "file data b " + zero + " -1", "file data b " + zero + " +1", "file data b " + zero + " 1x", "file data b " + zero + " -0",
		"file data b " + zero + " 18446744073709551616", "file data b " + zero + " 18446744073709551617", "file data b " + zero + " 1e1", "file data b " + zero + " \xff",
		"file data b " + zero[1:] + " 0", "file data b " + zero + "0 0", "file data b CBF29CE484222325 0", "file data b cbf29ce48422232g 0", "file data b cbf29ce48422232\xff 0", "file data b  0", "file data b cbf29ce4842223\u00e9 0", "file data b 0xf29ce484222325 0",
		"set", "set b", "set b ", "set b x", "set  \"\"", "set b \"\" ", "set b \"", "set b c \"\"", "set b \"\"x", "set \"\"", "set  b \"\"", "set b \"\\n\"",
		"service", "service b", "service b ", "service  c", "service b c ", "service b c x", "service b c auto ", "service b c auto auto", "service b  c", "service b c Auto", "service b  auto", "service b c 1", "service  b c", "service b auto x",
		"step", "step 1", "step 1 b", "step 1 b ", "step 1 b x", "step x b \"\"", "step  b \"\"", "step 1  \"\"", "step -1 b \"\"", "step +1 b \"\"", "step 01 b \"\"", "step 1000000000 b \"\"", "step 18446744073709551617 b \"\"",
		"step 1 b \"\" ", "step 1 b c \"\"", "step 1  b \"\"", "step 1.0 b \"\"", "step set b \"\"", "step 1 b \"\\\"",
		"move", "move ", "move *", "move * ", "move  1.0.0", "move * 1.0", "move * 1.0.0 ", "move x 1.0.0", "move *  1.0.0", "move 1.0.0 ", "move  * 1.0.0", "move \t* 1.0.0", "move * \t1.0.0", "move 1.0.0 * 2.0.0",
		"rule", "rule ", "rule a",
	} {
		for behind, at := range map[string]int{"\n": 2, "": 2, "\nx\n": 2, "\ncomponent c \"\"\n": 2} {
			// A text that ends with a line feed does not go on.
			if line+behind == "" {
				continue
			}
			text := base + line + behind
			if p, n, e := pack.Parse(text); !isNone(p) || n != at || e != api.ErrSyntax {
				t.Errorf("Parse(%q): %v, %d, %d", text, p, n, e)
			}
		}
	}
}

// TestP48First has first lines, or first and second ones, with ErrSyntax.
func TestP48First(t *testing.T) {
	for text, want := range map[string]int{
		"": 0, "\n": 0, "x": 0, "package\n": 0, "package a\n": 0, "package a 1.0.0\n": 0, "package a \"\"\n": 0, "package a 1.0.0 \n": 0, "package a 1.0.0 x\n": 0, "package a 1.0.0 \"\"": 0,
		"package  1.0.0 \"\"\n": 0, "package a  \"\"\n": 0, "package a  1.0.0 \"\"\n": 0, "package a 1.0 \"\"\n": 0, "package a 1.0.0 \"\" \n": 0, "package a 1.0.0  \"\"\n": 0, "package a 1.0.0 \"\n": 0,
		"package a b 1.0.0 \"\"\n": 0, "package a 1.0.0-a b \"\"\n": 0, " package a 1.0.0 \"\"\n": 0, "package a 1.0.0 \"\"\"\n": 0, "package a 01.0.0 \"\"\n": 0, "package a 1.0.0- \"\"\n": 0, "package a 1.0.0 \"\\n\"\n": 0,
		"package a 1.0.0 \"\\": 0, "package a 1.0.0 \"\" x\n": 0,
		"component a \"\"\n" + top: 0, "need b *\n" + top: 0, "move * 1.0.0\n": 0,
		top + top:                1,
		top + "need b\n":         1,
		top + "need b ":          1,
		top + "need b \n":        1,
		top + "need  *\n":        1,
		top + "need b x\n":       1,
		top + "need b * \n":      1,
		top + "need b  *\n":      1,
		top + "need b *":         1,
		top + "need b ^1.0.0,\n": 1,
		top + "need\n":           1,
		top + "bar b\n":          1,
		top + "bar  *\n":         1,
		top + "bar b 1.0\n":      1,
		top + "bar\n":            1,
		top + "when always\n":    1,
		top + "needs a\n":        1,
		top + "set a \"\"\n":     1,
		top + "step 1 a \"\"\n":  1,
		top + "rule a\n":         1,
	} {
		if p, n, e := pack.Parse(text); !isNone(p) || n != want || e != api.ErrSyntax {
			t.Errorf("Parse(%q): %v, %d, %d", text, p, n, e)
		}
	}
}

// TestP48Order puts each line behind each other one.
func TestP48Order(t *testing.T) {
	lines := map[string]string{
		"package": "package a 1.0.0 \"\"", "need": "need x *", "bar": "bar x *", "component": "component b \"\"", "when": "when has a", "needs": "needs a",
		"file": "file data x " + zero + " 0", "set": "set x \"\"", "service": "service x y", "step": "step 1 x \"\"", "move": "move * 1.0.0", "rule": "rule a",
	}
	follow := map[string]string{
		"package": "need bar component move", "need": "need bar component move", "bar": "bar component move", "component": "component when needs file set service step move",
		"when": "component needs file set service step move", "needs": "component needs file set service step move",
		"file": "component file set service step move", "set": "component file set service step move", "service": "component file set service step move",
		"step": "component step move", "move": "move rule", "rule": "move rule",
	}
	ahead := map[string]string{
		"package": "", "need": top, "bar": top, "component": top, "when": base, "needs": base, "file": base, "set": base, "service": base, "step": base, "move": base, "rule": base + "move * 1.0.0\n",
	}
	for first, line := range lines {
		for second, next := range lines {
			text := ahead[first] + line + "\n" + next + "\n"
			number := strings.Count(text, "\n") - 1
			_, n, e := pack.Parse(text)
			if slices.Contains(strings.Fields(follow[first]), second) {
				if e == api.ErrSyntax || n != 0 {
					t.Errorf("Parse(%q): %d, %d", text, n, e)
				}
			} else if n != number || e != api.ErrSyntax {
				t.Errorf("Parse(%q): %d, %d", text, n, e)
			}
		}
	}
}

// TestP48Errors has texts with other errors than ErrSyntax, and what comes ahead of them.
func TestP48Errors(t *testing.T) {
	spans := strings.Repeat("<1.0.0, ", 11)[:11*8-2]
	for _, c := range []struct {
		text string
		line int
		want api.Errno
	}{
		{"package a 1000000.0.0 \"\"\n", 0, api.ErrRange},
		{"package a 1.0.0-A \"\"\n", 0, api.ErrForm},
		{"package a 1000000.0.0 \"\"", 0, api.ErrSyntax},
		{"package a 1000000.0.0 \"\n", 0, api.ErrSyntax},
		{"package a 1000000.0.0 \"\"\nx\n", 0, api.ErrRange},
		{"package a 1.0.0-A \"\" x\n", 0, api.ErrSyntax},
		{top + "need b >=1000000.0.0\n", 1, api.ErrRange},
		{top + "need b <1.0.0-A\n", 1, api.ErrForm},
		{top + "need b >=2.0.0 <1.0.0\n", 1, api.ErrOrder},
		{top + "need b " + spans + "\n", 1, api.ErrLarge},
		{top + "need b " + long(1001) + "\n", 1, api.ErrLarge},
		{top + "need b >=1000000.0.0", 1, api.ErrSyntax},
		{top + "need  >=1000000.0.0\n", 1, api.ErrSyntax},
		{top + "bar b =999999.999999.999999\n", 1, api.ErrRange},
		{top + "bar b *\nneed b >=1000000.0.0\n", 2, api.ErrSyntax},
		{base + "when has ?\n", 2, api.ErrName},
		{base + "when " + strings.Repeat("not ", 21) + "always\n", 2, api.ErrLarge},
		{base + "when " + long(4001) + "\n", 2, api.ErrLarge},
		{base + "when fact a = \"\t\"\n", 2, api.ErrForm},
		{base + "when version a in \">=2.0.0 <1.0.0\"\n", 2, api.ErrOrder},
		{base + "when has ?", 2, api.ErrSyntax},
		{base + "when has ?\nwhen has ?\n", 2, api.ErrName},
		{base + "when has a\nwhen has ?\n", 3, api.ErrSyntax},
		{base + "move >=2.0.0 <1.0.0 1.0.0\n", 2, api.ErrOrder},
		{base + "move >=2.0.0 <1.0.0 1000000.0.0\n", 2, api.ErrOrder},
		{base + "move * 1000000.0.0\n", 2, api.ErrRange},
		{base + "move * 1.0.0-A\n", 2, api.ErrForm},
		{base + "move " + long(1001) + " 1000000.0.0\n", 2, api.ErrLarge},
		{base + "move * 1000000.0.0", 2, api.ErrSyntax},
		// The first bad line decides.
		{top + "need b >=1000000.0.0\nneed b <1.0.0-A\nx\n", 1, api.ErrRange},
		{top + "need b *\nx\nneed b <1.0.0-A\n", 2, api.ErrSyntax},
		// What Check says has no line, and comes behind all lines.
		{top, 0, api.ErrEmpty},
		{top + "move * 1.0.0\n", 0, api.ErrEmpty},
		{"package A 1.0.0 \"\"\ncomponent a \"\"\n", 0, api.ErrName},
		{"package A 1.0.0 \"\"\ncomponent a \"\"\nx\n", 2, api.ErrSyntax},
		{"package A 1.0.0 \"\"\ncomponent a \"\"\nwhen has ?\n", 2, api.ErrName},
		{"package \"\" 1.0.0 \"\"\ncomponent a \"\"\n", 0, api.ErrName},
		{"package a 1.0.0 \"\xff\"\ncomponent a \"\"\n", 0, api.ErrForm},
		{"package a 1.0.0 \"\t\\\"\"\ncomponent a \"\"\n", 0, api.ErrForm},
		{top + "need a *\n", 0, api.ErrLoop},
		{top + "need \t *\n" + base[len(top):], 0, api.ErrName},
		{top + "bar b none\nbar b *\n", 0, api.ErrTwice},
		{base + "needs \"b\"\n", 0, api.ErrNone},
		{base + "needs a\n", 0, api.ErrLoop},
		{base + "file data / " + zero + " 0\n", 0, api.ErrName},
		{base + "file program stage/x " + zero + " 0\n", 0, api.ErrDenied},
		{base + "set \xff \"\"\n", 0, api.ErrName},
		{base + "set a \"\t\"\n", 0, api.ErrForm},
		{base + "set a \"" + long(1001) + "\"\n", 0, api.ErrForm},
		{base + "service A b\n", 0, api.ErrName},
		{base + "service a b\n", 0, api.ErrNone},
		{base + "step 0 a \"\"\n", 0, api.ErrKind},
		{base + "step 999999999 a \"\"\n", 0, api.ErrKind},
		{base + "step 6 a \"x\"\n", 0, api.ErrForm},
		{base + "step 1 / \"x\"\n", 0, api.ErrName},
		{base + "move * 1.0.0\nrule \n", 0, api.ErrForm},
		{base + "move * 1.0.0\nrule \t\n", 0, api.ErrForm},
		{base + strings.Repeat("move none 1.0.0\n", 21), 0, api.ErrLarge},
	} {
		if p, n, e := pack.Parse(c.text); !isNone(p) || n != c.line || e != c.want {
			t.Errorf("Parse(%.200q): %v, %d, %d", c.text, p, n, e)
		}
	}
}

// TestP48Rules sees that a rule is all behind the first space.
func TestP48Rules(t *testing.T) {
	text := base + "move * 1.0.0\nrule a  b \nrule  \nrule rule \"x\nmove none 1.0.0\nrule x\n"
	p, n, e := pack.Parse(text)
	want := []api.Move{{From: whole(), To: number(1), Rules: []string{"a  b ", " ", "rule \"x"}}, {To: number(1), Rules: []string{"x"}}}
	if !same(p.Moves, want) || n != 0 || e != api.OK {
		t.Error(p.Moves, n, e)
	}
	if s, e := pack.Print(p); s != text || e != api.OK {
		t.Errorf("%q, %d", s, e)
	}
}

// sized is a package whose text has so many bytes.
func sized(t *testing.T, size int) api.Package {
	t.Helper()
	p := small(part("a"))
	text, _ := pack.Print(p)
	c := &p.Components[0]
	for i := 0; ; i++ {
		x := setting(numbered(i), "")
		rest := size - len(text) - len("set "+numbered(i)+" \"\"\n")
		switch {
		case rest < 0:
			t.Fatal(size, rest)
		case rest > 1000:
			// Enough is left for another line.
			x.Setting.Value = long(min(rest-100, 1000))
		default:
			x.Setting.Value = long(rest)
		}
		c.Items = append(c.Items, x)
		text += "set " + x.Setting.Key + " \"" + x.Setting.Value + "\"\n"
		if len(text) == size {
			return p
		}
	}
}

func TestP48Large(t *testing.T) {
	p := sized(t, api.MaxText)
	text, e := pack.Print(p)
	if len(text) != api.MaxText || e != api.OK {
		t.Fatal(len(text), e)
	}
	if q, n, e := pack.Parse(text); !same(q, p) || n != 0 || e != api.OK {
		t.Error(n, e)
	}
	p = sized(t, api.MaxText+1)
	check(t, "large", p, api.OK)
	if s, e := pack.Print(p); s != "" || e != api.ErrLarge {
		t.Error(len(s), e)
	}
	// A short line that would fit does not make it less.
	p = sized(t, api.MaxText-10)
	p.Components[0].Items = append(p.Components[0].Items, setting("x", long(100)))
	p.Components[0].Steps = []api.Step{{Kind: 2, Name: "a"}}
	if s, e := pack.Print(p); s != "" || e != api.ErrLarge {
		t.Error(len(s), e)
	}
	p.Name = "?"
	if s, e := pack.Print(p); s != "" || e != api.ErrName {
		t.Error(len(s), e)
	}
	// Too large is ahead of the form.
	for text, want := range map[string]api.Errno{long(api.MaxText): api.ErrSyntax, long(api.MaxText + 1): api.ErrLarge, text + "\n": api.ErrLarge} {
		if q, n, e := pack.Parse(text); !isNone(q) || n != 0 || e != want {
			t.Error(n, e)
		}
	}
}

// TestP48Long has a range and a condition whose texts are longer than those that can be read.
func TestP48Long(t *testing.T) {
	p := small(part("a"))
	var r api.Range
	for i := range api.MaxSpans {
		v := api.Version{Major: 900000 + i, Minor: 900000, Patch: 900000, Early: "a." + strings.Repeat("b123456789.", 3) + "c2345"}
		to := v
		to.Minor++
		r.Spans = append(r.Spans, api.Span{HasFrom: true, From: v, HasTo: true, To: to})
	}
	p.Needs = []api.Need{{Name: "b", Range: r}}
	text, e := pack.Print(p)
	if e != api.OK {
		t.Fatal(e)
	}
	if q, n, e := pack.Parse(text); !isNone(q) || n != 1 || e != api.ErrLarge {
		t.Error(q, n, e)
	}
	p.Needs = nil
	p.Components[0].When = api.Cond{Kind: api.CondAny, Args: slices.Repeat([]api.Cond{fact("os", long(1000))}, 4)}
	text, e = pack.Print(p)
	if e != api.OK {
		t.Fatal(e)
	}
	if q, n, e := pack.Parse(text); !isNone(q) || n != 2 || e != api.ErrLarge {
		t.Error(q, n, e)
	}
}

// TestP48Quotes has every byte in a title and in a value.
func TestP48Quotes(t *testing.T) {
	for i := range 256 {
		c := string([]byte{byte(i)})
		want := c
		if c == "\"" || c == "\\" {
			want = "\\" + c
		}
		p := small(having("a", setting("a", c+"x"+c)))
		p.Title = c
		text := "package small 0.0.0 \"" + want + "\"\ncomponent a \"\"\nset a \"" + want + "x" + want + "\"\n"
		s, e := pack.Print(p)
		q, n, f := pack.Parse(text)
		switch {
		case i >= 32 && i <= 126:
			if s != text || e != api.OK || !same(q, p) || n != 0 || f != api.OK {
				t.Error(i, s, e, q, n, f)
			}
		case i == 10:
			if s != "" || e != api.ErrForm || !isNone(q) || n != 0 || f != api.ErrSyntax {
				t.Error(i, s, e, q, n, f)
			}
		default:
			if s != "" || e != api.ErrForm || !isNone(q) || n != 0 || f != api.ErrForm {
				t.Error(i, s, e, q, n, f)
			}
		}
		if c == "\"" || c == "\\" {
			continue
		}
		if q, n, e := pack.Parse(base + "set a \"\\" + c + "\"\n"); !isNone(q) || n != 2 || e != api.ErrSyntax {
			t.Error(i, q, n, e)
		}
	}
}

// TestP48Chance prints and reads packages made by chance.
func TestP48Chance(t *testing.T) {
	rnd := rand.New(rand.NewPCG(7, 8))
	for i := range 2000 {
		p := guessGood(rnd)
		p.Title = strconv.Itoa(i)
		text, e := pack.Print(p)
		if q, n, f := pack.Parse(text); e != api.OK || f != api.OK || n != 0 || !same(q, bare(p)) {
			t.Fatal(p, text, q, n, e, f)
		}
	}
}
