package disk_test

import (
	"iter"
	"math/rand/v2"
	"slices"
	"strings"
	"testing"

	"outfitter/api"
	"outfitter/disk"
)

func TestP24Sums(t *testing.T) {
	for text, want := range map[string]string{
		"":                          "cbf29ce484222325",
		"a":                         "af63dc4c8601ec8c",
		"foobar":                    "85944171f73967e8",
		"\x00":                      "af63bd4c8601b7df",
		"\xff":                      "af64724c8602eb6e",
		strings.Repeat("\xc3", 256): "e0ca6a163e0ad025",
		"77":                        "07f20107b4b4a693", // a sum with a zero ahead
	} {
		if s := disk.SumOf(text); s != want {
			t.Errorf("SumOf(%q): %s", text, s)
		}
	}
	for _, m := range []api.Machine{{}, some()} {
		text, _ := disk.Print(m)
		if s, e := disk.Sum(m); s != disk.SumOf(text) || e != api.OK {
			t.Error(s, e)
		}
	}
}

// TestP25Bytes tries every byte, in each of the forms that it could have.
func TestP25Bytes(t *testing.T) {
	const small = "0123456789abcdef"
	for i := range 256 {
		c := string([]byte{byte(i)})
		hex := small[i/16:i/16+1] + small[i%16:i%16+1]
		want := c
		switch {
		case c == `"` || c == `\`:
			want = `\` + c
		case i == 10:
			want = `\n`
		case i < 32 || i > 126:
			want = `\x` + hex
		}
		if q := disk.Quote("a" + c + "b"); q != `"a`+want+`b"` {
			t.Errorf("Quote(%q): %s", c, q)
		}
		forms := []string{c, `\x` + hex, `\x` + strings.ToUpper(hex), `\X` + hex}
		if c != "n" && c != "x" {
			forms = append(forms, `\`+c)
		}
		for _, form := range forms {
			text, e := disk.Unquote(`"a` + form + `b"`)
			if form == want && (text != "a"+c+"b" || e != api.OK) || form != want && form != `\\` && form != `\"` && (text != "" || e != api.ErrSyntax) {
				t.Errorf("Unquote(%q): %q, %d", form, text, e)
			}
		}
	}
}

// TestP25Quotes tries all short texts of some bytes: just what Quote writes is read.
func TestP25Quotes(t *testing.T) {
	written := map[string]string{}
	for s := range every("\"\\nx0a\n\x00\xa0\xaa", 5) {
		written[disk.Quote(s)] = s
	}
	for s := range every("\"\\nx0a\n", 7) {
		want, ok := written[s]
		text, e := disk.Unquote(s)
		if ok && (text != want || e != api.OK) || !ok && (text != "" || e != api.ErrSyntax) {
			t.Errorf("Unquote(%q): %q, %d", s, text, e)
		}
	}
	for _, s := range []string{`a`, `a"b"`, `"a"b`, `"a" `, ` "a"`, `'a'`, `"\x"`, `"\x0`, `"\x0"`, `"\x+f"`, `"\x 1"`, `"\"`, `"\\\"`} {
		if text, e := disk.Unquote(s); text != "" || e != api.ErrSyntax {
			t.Errorf("Unquote(%q): %q, %d", s, text, e)
		}
	}
}

// every goes through all texts of some bytes, up to a length.
func every(bytes string, most int) iter.Seq[string] {
	return func(yield func(string) bool) {
		if !yield("") || most == 0 {
			return
		}
		for head := range every(bytes, most-1) {
			for i := range len(bytes) {
				if !yield(bytes[i:i+1] + head) {
					return
				}
			}
		}
	}
}

func TestP25Print(t *testing.T) {
	for text, m := range map[string]api.Machine{
		"":                                   {},
		someText:                             some(),
		"fact a \"\\\\\"\nfact b \"\\\"\"\n": facts(pair("a", "\\"), pair("b", "\"")),
		"service a a 0 0\n":                  services(service("a", "a")),
	} {
		if s, e := disk.Print(m); s != text || e != api.OK {
			t.Errorf("Print: %q, %d", s, e)
		}
		if n, line, e := disk.Parse(text); !disk.Same(n, m) || line != 0 || e != api.OK {
			t.Errorf("Parse(%q): %v, %d, %d", text, n, line, e)
		}
	}
}

// TestP25Syntax has texts and the lines with ErrSyntax, or other errors.
func TestP25Syntax(t *testing.T) {
	for text, want := range map[string]int{
		"\n": 0, "x\n": 0, "fact": 0, "fact\n": 0, "fact \n": 0, "fact a\n": 0, "fact a \n": 0, "fact a \"\"": 0, "fact  \"\"\n": 0,
		"fact a x\n": 0, "fact a \"\n": 0, "fact a \"\" \n": 0, "fact a  \"\"\n": 0, " fact a \"\"\n": 0, "fact a \"\"\r\n": 0,
		"fact a\t\"\"\n": 0, "fact \"\"\n": 0, "Fact a \"\"\n": 0, "facts a \"\"\n": 0, "fact a \"\" \"\"\n": 0, "fact a \"\\a\"\n": 0,
		"file a \"\t\"\n": 0, "file a \"\xff\"\n": 0, "file a b \"\"\n": 0, "file a \"\\xAA\"\n": 0, "runs a \"\"\n": 0, "put a \"\"\n": 0, "remove a\n": 0,
		"set a = \"\"\n": 0, "unset a\n": 0, "set  a \"\"\n": 0,
		"service a a 0\n": 0, "service a a 0 0": 0, "service a a 0 0 0\n": 0, "service a a 0 0 \n": 0, "service a a 2 0\n": 0, "service a a 0 x\n": 0,
		"service a a 00 0\n": 0, "service a a  0\n": 0, "service  a 0 0\n": 0, "service a  0 0\n": 0, "service a a 0  0\n": 0, "service a a true 0\n": 0,
		"service a \"a\" 0 0 0\n": 0, "drop a\n": 0, "service\n": 0, "service \n": 0, "service a a 0 -\n": 0, "service a a 1 1 ": 0,

		"fact a \"\"\n\nfact b \"\"\n":                                      1,
		"fact a \"\"\nfact b \"\"\nfact c \"\"":                             2,
		"fact a \"\"\nx":                                                    1,
		"file a \"\"\nfact a \"\"\n":                                        1,
		"set a \"\"\nfact a \"\"\n":                                         1,
		"service a a 0 0\nfact a \"\"\n":                                    1,
		"set a \"\"\nfile a \"\"\n":                                         1,
		"set a \"\"\nrun a \"\"\n":                                          1,
		"service a a 0 0\nrun a \"\"\n":                                     1,
		"service a a 0 0\nset a \"\"\n":                                     1,
		"fact a \"\"\nset b \"\"\nset c \"\"\nfile d \"\"\n":                3,
		"fact a \"\"\nfile a \"\"\nrun b \"\"\nservice a a 0 0\nrun c \"\"": 4,
		// Ahead of Check's errors, and the first line of them.
		"fact ? \"\\n\"\nx\ny\n":               1,
		"file b \"\"\nfile a \"\"\nset a \"\n": 2,
	} {
		if m, line, e := disk.Parse(text); !isNone(m) || line != want || e != api.ErrSyntax {
			t.Errorf("Parse(%q): %v, %d, %d", text, m, line, e)
		}
	}
}

func TestP25ParseCheck(t *testing.T) {
	for text, want := range map[string]api.Errno{
		"fact A \"\"\n":                       api.ErrName,
		"fact \t \"\"\n":                      api.ErrName,
		"fact \" \"\"\n":                      api.ErrName,
		"fact \xff \"\"\n":                    api.ErrName,
		"fact a/b \"\"\n":                     api.ErrName,
		"fact a \"\\n\"\n":                    api.ErrForm,
		"fact b \"\"\nfact a \"\"\n":          api.ErrOrder,
		"file / \"\"\n":                       api.ErrName,
		"run .. \"\"\n":                       api.ErrName,
		"file a \"\"\nfile a \"\"\n":          api.ErrOrder,
		"run b \"\"\nfile a \"\"\n":           api.ErrOrder,
		"file a \"\"\nrun a/b \"\"\n":         api.ErrConflict,
		"file a \"" + long(1<<16) + "\"\n":    api.OK,
		"file a \"" + long(1<<16+1) + "\"\n":  api.ErrLarge,
		"set ~ \"\"\n":                        api.ErrName,
		"set a \"" + long(1001) + "\"\n":      api.ErrForm,
		"set b \"\"\nset a \"\"\n":            api.ErrOrder,
		"service A a 0 0\n":                   api.ErrName,
		"service a \"\" 0 0\n":                api.ErrName,
		"service a a 0 1\nservice a a 0 1\n":  api.ErrOrder,
		strings.Repeat("fact a \"\"\n", 101):  api.ErrLarge,
		strings.Repeat("file a \"\"\n", 2001): api.ErrLarge,
	} {
		if m, line, e := disk.Parse(text); isNone(m) != (want != api.OK) || line != 0 || e != want {
			t.Errorf("Parse(%q): %v, %d, %d", text, m, line, e)
		}
	}
}

// sized is a machine whose text has so many bytes (at least 4,000,000).
func sized(t *testing.T, size int) api.Machine {
	t.Helper()
	m := files()
	for i := range 15 {
		m.Files = append(m.Files, api.File{Path: numbered(i), Data: strings.Repeat("\x00", api.MaxData)})
	}
	text, e := disk.Print(m)
	if e != api.OK {
		t.Fatal(e)
	}
	rest := size - len(text)
	for i := 0; rest > 0; i++ {
		f := api.File{Path: "o" + numbered(i)}
		empty := len("file " + f.Path + " \"\"\n")
		f.Data = long(min(rest-empty, 50000))
		rest -= empty + len(f.Data)
		m.Files = append(m.Files, f)
	}
	return m
}

func TestP25Large(t *testing.T) {
	const most = 4 * api.MaxText
	m := sized(t, most)
	text, e := disk.Print(m)
	if len(text) != most || e != api.OK {
		t.Fatal(len(text), e)
	}
	if s, e := disk.Sum(m); s != disk.SumOf(text) || e != api.OK {
		t.Error(s, e)
	}
	if n, line, e := disk.Parse(text); !disk.Same(n, m) || line != 0 || e != api.OK {
		t.Error(line, e)
	}
	larger := sized(t, most+1)
	if s, e := disk.Print(larger); s != "" || e != api.ErrLarge {
		t.Error(len(s), e)
	}
	if s, e := disk.Sum(larger); s != "" || e != api.ErrLarge {
		t.Error(s, e)
	}
	if e := disk.Check(larger); e != api.OK {
		t.Error(e)
	}
	larger.Facts = wrong().Facts
	if s, e := disk.Print(larger); s != "" || e != api.ErrName {
		t.Error(len(s), e)
	}
	// Too large is ahead of the form.
	for text, want := range map[string]api.Errno{long(most): api.ErrSyntax, long(most + 1): api.ErrLarge} {
		if n, line, e := disk.Parse(text); !isNone(n) || line != 0 || e != want {
			t.Error(line, e)
		}
		if l, line, e := disk.ParseChanges(text); len(l) != 0 || line != 0 || e != want {
			t.Error(line, e)
		}
	}
}

func TestP25LargeChanges(t *testing.T) {
	const most = 4 * api.MaxText
	var l []api.Change
	for range 20 {
		l = append(l, put("a", strings.Repeat("\n", 50000)))
	}
	text, _ := disk.PrintChanges(l)
	for rest := most - len(text); rest > 0; rest = most - len(text) {
		c := put("b", long(min(rest-len("put b \"\"\n"), 50000)))
		l = append(l, c)
		more, _ := disk.PrintChanges([]api.Change{c})
		text += more
	}
	if s, e := disk.PrintChanges(l); s != text || len(s) != most || e != api.OK {
		t.Error(len(s), e)
	}
	if c, line, e := disk.ParseChanges(text); !slices.Equal(c, l) || line != 0 || e != api.OK {
		t.Error(line, e)
	}
	l[0].File.Path = "aa"
	if s, e := disk.PrintChanges(l); s != "" || e != api.ErrLarge {
		t.Error(len(s), e)
	}
	if s, e := disk.PrintChanges(append(l, api.Change{})); s != "" || e != api.ErrKind {
		t.Error(len(s), e)
	}
}

func TestP25Changes(t *testing.T) {
	runs := put("z/Z", "\\\"\n\x7f")
	runs.File.Runs = true
	l := []api.Change{runs, put("b", ""), remove("b"), set("b/B", "x y\""), unset("b/B"), begin(api.Service{Name: "b", Path: "z/Z", On: true}), drop("b"), remove("a"), drop("a"), begin(api.Service{Name: "a", Path: "A", Auto: true}), remove("a")}
	const text = "putrun z/Z \"\\\\\\\"\\n\\x7f\"\nput b \"\"\nremove b\nset b/B \"x y\\\"\"\nunset b/B\nservice b z/Z 0 1\ndrop b\nremove a\ndrop a\nservice a A 1 0\nremove a\n"
	if s, e := disk.PrintChanges(l); s != text || e != api.OK {
		t.Errorf("%q, %d", s, e)
	}
	if c, line, e := disk.ParseChanges(text); !slices.Equal(c, l) || line != 0 || e != api.OK {
		t.Error(c, line, e)
	}
	if s, e := disk.PrintChanges(nil); s != "" || e != api.OK {
		t.Error(s, e)
	}
	if c, line, e := disk.ParseChanges(""); len(c) != 0 || line != 0 || e != api.OK {
		t.Error(c, line, e)
	}
	for i, c := range []struct {
		l    []api.Change
		want api.Errno
	}{
		{[]api.Change{{}}, api.ErrKind},
		{[]api.Change{put("a", ""), remove("/"), {}}, api.ErrName},
		{[]api.Change{put("a", ""), set("a", "\n"), {}}, api.ErrForm},
		{[]api.Change{put("a", long(api.MaxData+1))}, api.ErrLarge},
	} {
		if s, e := disk.PrintChanges(c.l); s != "" || e != c.want {
			t.Errorf("PrintChanges %d: %q, %d", i, s, e)
		}
	}
}

func TestP25ChangesSyntax(t *testing.T) {
	for text, want := range map[string]int{
		"\n": 0, "x\n": 0, "put\n": 0, "put a\n": 0, "put a \"\"": 0, "put a \"\" \n": 0, "put  \"\"\n": 0, "put a b \"\"\n": 0, "put a x\n": 0, "put a \"\\x41\"\n": 0,
		"Put a \"\"\n": 0, "putrun a\n": 0, "putrun a \"\n": 0, "file a \"\"\n": 0, "run a \"\"\n": 0, "fact a \"\"\n": 0,
		"remove\n": 0, "remove \n": 0, "remove a": 0, "remove a \n": 0, "remove  a\n": 0, "remove a b\n": 0, "remove": 0,
		"set a\n": 0, "set a \"\" x\n": 0, "unset\n": 0, "unset \n": 0, "unset a b\n": 0, "unset a \"\"\n": 0, "unset a": 0,
		"service a a 0\n": 0, "service a a 0 0 0\n": 0, "service a a 0 2\n": 0, "service  a 0 0\n": 0, "service a  0 0\n": 0, "service a a 1 1": 0,
		"drop\n": 0, "drop \n": 0, "drop a b\n": 0, "drop a": 0, " drop a\n": 0, "drop a \n": 0,

		"drop a\n\n":                        1,
		"drop a\nset a \"\"\nremove a":      2,
		"drop ?\nput / \"\\n\"\nset a\nx\n": 2,
	} {
		if l, line, e := disk.ParseChanges(text); len(l) != 0 || line != want || e != api.ErrSyntax {
			t.Errorf("ParseChanges(%q): %v, %d, %d", text, l, line, e)
		}
	}
	for text, want := range map[string]api.Errno{
		"put / \"\"\n": api.ErrName,
		"put a \"" + long(api.MaxData+1) + "\"\n": api.ErrLarge,
		"remove \t\n":         api.ErrName,
		"remove \"a\"\n":      api.ErrName,
		"set a \"\\n\"\n":     api.ErrForm,
		"unset a/\n":          api.ErrName,
		"service a/b a 0 0\n": api.ErrName,
		"service a ? 0 0\n":   api.ErrName,
		"drop \xff\n":         api.ErrName,
		"drop a\nset a \"\\x7f\"\ndrop ?\nput a \"\\x00\"\n": api.ErrForm,
	} {
		if l, line, e := disk.ParseChanges(text); len(l) != 0 || line != 0 || e != want {
			t.Errorf("ParseChanges(%q): %v, %d, %d", text, l, line, e)
		}
	}
}

// TestP25Chance prints and reads machines, and changes, made by chance.
func TestP25Chance(t *testing.T) {
	rnd := rand.New(rand.NewPCG(3, 4))
	for range 3000 {
		m := guess(rnd)
		text, e := disk.Print(m)
		if n, line, f := disk.Parse(text); e != api.OK || f != api.OK || line != 0 || !disk.Same(n, m) {
			t.Fatal(m, text, n, line, e, f)
		}
		var l []api.Change
		for range rnd.IntN(10) {
			l = append(l, guessChange(rnd))
		}
		text, e = disk.PrintChanges(l)
		if c, line, f := disk.ParseChanges(text); e != api.OK || f != api.OK || line != 0 || !slices.Equal(c, l) {
			t.Fatal(l, text, c, line, e, f)
		}
	}
}
