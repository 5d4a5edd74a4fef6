package pack_test

import (
	"math/rand/v2"
	"slices"
	"strconv"
	"strings"
	"testing"

	"outfitter/api"
	"outfitter/disk"
	"outfitter/pack"
)

// big writes a number, its highest byte first.
func big(n uint64, bytes int) string {
	var b []byte
	for i := range bytes {
		b = append(b, byte(n>>(8*(bytes-1-i))))
	}
	return string(b)
}

// body is a bundle without its seal, of any text and contents.
func body(text string, contents ...string) string {
	b := "OUT1" + big(uint64(len(text)), 8) + text + big(uint64(len(contents)), 4)
	for _, content := range contents {
		b += big(uint64(len(content)), 4) + content
	}
	return b
}

// seal puts the seal for the secret behind a bundle.
func seal(body string) []byte { return []byte(body + disk.SumOf("secret\x00"+body)) }

func bundle(t *testing.T, p api.Package, secret string) []byte {
	t.Helper()
	b, e := pack.Bundle(p, secret)
	if e != api.OK {
		t.Fatal(e)
	}
	return b
}

func TestP50Bundle(t *testing.T) {
	for i, c := range []struct {
		p    api.Package
		body string
	}{
		{some(), body(someText, "\x00app", "a\n", "")},
		{small(part("a")), body("package small 0.0.0 \"\"\ncomponent a \"\"\n")},
		{small(having("b", data("y", "2"), setting("b", "3"), data("z", "1")), having("a", data("x", "2"), data("a", "3"))),
			body("package small 0.0.0 \"\"\ncomponent b \"\"\nfile data y "+disk.SumOf("2")+" 1\nset b \"3\"\nfile data z "+disk.SumOf("1")+" 1\ncomponent a \"\"\nfile data x "+disk.SumOf("2")+" 1\nfile data a "+disk.SumOf("3")+" 1\n", "2", "1", "3")},
		{small(having("a", data("x", long(api.MaxData)))), body("package small 0.0.0 \"\"\ncomponent a \"\"\nfile data x "+disk.SumOf(long(api.MaxData))+" 65536\n", long(api.MaxData))},
	} {
		b, e := pack.Bundle(c.p, "secret")
		if string(b) != string(seal(c.body)) || e != api.OK {
			t.Errorf("Bundle %d: %q, %d", i, b, e)
		}
		if p, e := pack.Open(b, "secret"); !same(p, c.p) || e != api.OK {
			t.Errorf("Open %d: %v, %d", i, p, e)
		}
	}
	const empty = "package small 0.0.0 \"\"\ncomponent a \"\"\n"
	if b := bundle(t, small(part("a")), ""); string(b) != body(empty)+disk.SumOf("\x00"+body(empty)) {
		t.Errorf("%q", b)
	}
	// What a step writes is no content.
	p := small(part("a"))
	p.Components[0].Steps = []api.Step{{Kind: api.StepWrite, Name: "a", Value: "x"}}
	if b := bundle(t, p, "secret"); string(b) != string(seal(body(empty+"step 3 a \"x\"\n"))) {
		t.Errorf("%q", b)
	}
}

func TestP50BundleErrors(t *testing.T) {
	large := sized(t, api.MaxText+1)
	for i, c := range []struct {
		p      api.Package
		secret string
		want   api.Errno
	}{
		{some(), "\n", api.ErrForm},
		{some(), long(1001), api.ErrForm},
		{some(), "\x00", api.ErrForm},
		{some(), long(1000), api.OK},
		{some(), " ~", api.OK},
		{wrong(), "\n", api.ErrName},
		{small(), "\n", api.ErrEmpty},
		{large, "\n", api.ErrLarge},
	} {
		if b, e := pack.Bundle(c.p, c.secret); len(b) != 0 != (c.want == api.OK) || e != c.want {
			t.Errorf("Bundle %d: %q, %d", i, b, e)
		}
	}
}

// refuse sees that Open has an error, and List and Take, too, as long as it is not the seal's.
func refuse(t *testing.T, what any, b []byte, want api.Errno) {
	t.Helper()
	if p, e := pack.Open(b, "secret"); !isNone(p) || e != want {
		t.Errorf("Open %v: %v, %d, not %d", what, p, e, want)
	}
	if want == api.ErrSum {
		return
	}
	if l, e := pack.List(b); len(l) != 0 || e != want {
		t.Errorf("List %v: %v, %d, not %d", what, l, e, want)
	}
	if s, e := pack.Take(b, disk.SumOf("a\n")); s != "" || e != want {
		t.Errorf("Take %v: %q, %d, not %d", what, s, e, want)
	}
}

// TestP50Form has bundles that do not begin so, or of which bytes are missing or left.
func TestP50Form(t *testing.T) {
	whole := bundle(t, some(), "secret")
	for i := range whole {
		refuse(t, i, whole[:i], api.ErrSyntax)
		if i != len(whole)-16 {
			refuse(t, i, seal(string(whole[:i])), api.ErrSyntax)
		}
	}
	refuse(t, "a byte more", append(slices.Clone(whole), 'x'), api.ErrSyntax)
	contents := []string{"\x00app", "a\n", ""}
	good := body(someText, contents...)
	for what, b := range map[string]string{
		"nothing":               "",
		"a head":                "OUT1",
		"another head":          "OUT2" + good[4:],
		"a small head":          "out1" + good[4:],
		"one ahead":             " " + good,
		"a left byte":           good + "x",
		"a missing byte":        good[:len(good)-1],
		"a huge text":           "OUT1" + big(1<<63, 8) + good[12:],
		"a huger text":          "OUT1" + big(1<<64-1, 8) + good[12:],
		"a longer text":         "OUT1" + big(uint64(len(good)+16-12)+1, 8) + good[12:],
		"all a text":            "OUT1" + big(uint64(len(good)+16-12), 8) + good[12:],
		"the lowest byte ahead": "OUT1" + string([]byte{byte(len(someText) & 255), byte(len(someText) >> 8)}) + big(0, 6) + good[12:],
		"many contents":         body(someText)[:12+len(someText)] + big(1<<32-1, 4) + good[16+len(someText):],
		"one too many":          body(someText)[:12+len(someText)] + big(4, 4) + good[16+len(someText):],
		"one too few":           body(someText)[:12+len(someText)] + big(2, 4) + good[16+len(someText):],
		"a huge content":        body(someText)[:12+len(someText)] + big(1, 4) + big(1<<32-1, 4) + "x",
		"a content, left":       good + big(0, 4),
		"no numbers":            "OUT1" + someText,
	} {
		refuse(t, what, seal(b), api.ErrSyntax)
		refuse(t, what+" without a seal", []byte(b), api.ErrSyntax)
	}
	// Bytes that are missing come ahead of all that the text says.
	refuse(t, "a bad text", seal(body("x\n")+"x"), api.ErrSyntax)
	refuse(t, "a bad text and seal", []byte(body("x\n")+"x"+long(16)), api.ErrSyntax)
}

func TestP50Large(t *testing.T) {
	const most = 2 * api.MaxText
	for size, want := range map[int]api.Errno{most: api.ErrSyntax, most + 1: api.ErrLarge} {
		refuse(t, size, []byte(long(size)), want)
		refuse(t, size, make([]byte, size), want)
	}
	// The form is right, and what is in it is not.
	padded := strings.Repeat("\n", most-16-16)
	refuse(t, "as large as may be", seal(body(padded)), api.ErrLarge) // Parse's
	refuse(t, "as large as may be, without a seal", []byte(body(padded)+long(16)), api.ErrSum)
	refuse(t, "a byte more", seal(body(padded+"\n")), api.ErrLarge)
	refuse(t, "a byte more, without a seal", []byte(body(padded+"\n")+long(16)), api.ErrLarge)
	for _, secret := range []string{"\n", long(1001)} {
		for _, b := range [][]byte{nil, bundle(t, some(), "secret"), make([]byte, most+1)} {
			if p, e := pack.Open(b, secret); !isNone(p) || e != api.ErrForm {
				t.Error(p, e)
			}
		}
	}
	// As large a package as there is can be opened.
	p := sized(t, api.MaxText-8*len("file data n1000000 ................ 65536\n"))
	for i := range 8 {
		p.Components[0].Items = append(p.Components[0].Items, data(numbered(i), strconv.Itoa(i)+long(api.MaxData-1)))
	}
	b := bundle(t, p, "secret")
	if q, e := pack.Open(b, "secret"); !same(q, p) || e != api.OK {
		t.Error(len(b), e)
	}
}

// TestP50Seal changes each byte of a bundle, and the secret.
func TestP50Seal(t *testing.T) {
	whole := bundle(t, some(), "secret")
	for i := range whole {
		for _, bit := range []byte{1, 2, 16, 128} {
			b := slices.Clone(whole)
			b[i] ^= bit
			p, e := pack.Open(b, "secret")
			if !isNone(p) || e != api.ErrSum && e != api.ErrSyntax {
				t.Errorf("Open %d, %d: %v, %d", i, bit, p, e)
			}
			if i >= len(whole)-16 || i >= 12 && i < 12+len(someText) {
				refuse(t, i, b, api.ErrSum)
			}
		}
	}
	for _, secret := range []string{"", "Secret", "secre", "secret ", " secret"} {
		if p, e := pack.Open(whole, secret); !isNone(p) || e != api.ErrSum {
			t.Errorf("%q: %v, %d", secret, p, e)
		}
		if p, e := pack.Open(bundle(t, some(), secret), secret); !same(p, some()) || e != api.OK {
			t.Errorf("%q: %v, %d", secret, p, e)
		}
	}
	// The byte between keeps secret and bundle apart, and digits are small.
	for what, sum := range map[string]string{"no byte between": disk.SumOf("secret" + string(whole[:len(whole)-16])), "no secret": disk.SumOf(string(whole[:len(whole)-16])), "large": strings.ToUpper(string(whole[len(whole)-16:]))} {
		refuse(t, what, append(slices.Clone(whole[:len(whole)-16]), sum...), api.ErrSum)
	}
	// The seal comes ahead of all that is in the bundle.
	for what, b := range map[string]string{"text": body("x\n"), "content": body(someText), "left": body(someText, "\x00app", "a\n", "", "x")} {
		refuse(t, what, []byte(b+long(16)), api.ErrSum)
	}
}

// TestP50Contents has bundles of texts and contents that do not belong together.
func TestP50Contents(t *testing.T) {
	one, two := "file data a "+disk.SumOf("1")+" 1\n", "file data b "+disk.SumOf("2")+" 1\n"
	again := "file data c " + disk.SumOf("1") + " 1\n"
	short := "file data d " + disk.SumOf("1") + " 0\n"
	for what, c := range map[string]struct {
		text     string
		contents []string
		want     api.Errno
	}{
		"no text":              {"", nil, api.ErrSyntax},
		"a bad text":           {base + "x\n", []string{"1"}, api.ErrSyntax},
		"a bad package":        {top, []string{"1"}, api.ErrEmpty},
		"a bad version":        {"package a 1000000.0.0 \"\"\n", nil, api.ErrRange},
		"a bad path":           {base + "file data / " + disk.SumOf("1") + " 1\n", nil, api.ErrName},
		"another's text":       {base + "when   always\n" + one, []string{"1"}, api.OK},
		"none":                 {base + one, nil, api.ErrNone},
		"another":              {base + one, []string{"2"}, api.ErrNone},
		"one of two":           {base + one + two, []string{"1"}, api.ErrNone},
		"another length":       {base + one, []string{"11"}, api.ErrNone},
		"a sum alone":          {base + short, []string{"1"}, api.ErrNone},
		"a sum alone, too":     {base + one + short, []string{"1"}, api.ErrNone},
		"none, and of no file": {base + one + two, []string{"3", "2"}, api.ErrNone},
		"none, out of order":   {base + one + two + short, []string{"2", "1"}, api.ErrNone},
		"two":                  {base + one + two + again, []string{"1", "2"}, api.OK},
		"out of order":         {base + one + two, []string{"2", "1"}, api.ErrSyntax},
		"out of order, again":  {base + one + two + again, []string{"2", "1"}, api.ErrSyntax},
		"of no file":           {base + one, []string{"1", "2"}, api.ErrSyntax},
		"of no file, ahead":    {base + one, []string{"2", "1"}, api.ErrSyntax},
		"of no file, between":  {base + one + two, []string{"1", "3", "2"}, api.ErrSyntax},
		"of no file, empty":    {base + one, []string{"1", ""}, api.ErrSyntax},
		"of no file at all":    {base, []string{"1"}, api.ErrSyntax},
		"of no file, too long": {base, []string{long(api.MaxData + 1)}, api.ErrSyntax},
		"twice":                {base + one, []string{"1", "1"}, api.ErrSyntax},
		"twice, for two":       {base + one + again, []string{"1", "1"}, api.ErrSyntax},
		"twice, between":       {base + one + two + again, []string{"1", "2", "1"}, api.ErrSyntax},
		"empty":                {base + "file data a " + zero + " 0\n", []string{""}, api.OK},
		"empty, not there":     {base + "file data a " + zero + " 0\n", nil, api.ErrNone},
	} {
		b := seal(body(c.text, c.contents...))
		if c.want != api.OK {
			refuse(t, what, b, c.want)
			continue
		}
		if p, e := pack.Open(b, "secret"); isNone(p) || e != api.OK {
			t.Errorf("Open %s: %v, %d", what, p, e)
		}
	}
}

// TestP50Check has more bytes of files than a package may have, though the bundle is small.
func TestP50Check(t *testing.T) {
	content := long(api.MaxData)
	text := base
	for i := range 8 {
		text += "file data " + numbered(i) + " " + disk.SumOf(content) + " 65536\n"
	}
	if p, e := pack.Open(seal(body(text, content)), "secret"); len(p.Components) != 1 || len(p.Components[0].Items) != 8 || p.Components[0].Items[7].File.Data != content || e != api.OK {
		t.Error(e)
	}
	text += "file data x " + disk.SumOf("1") + " 1\n"
	refuse(t, "large", seal(body(text, content, "1")), api.ErrLarge)
	refuse(t, "large, out of order", seal(body(text, "1", content)), api.ErrSyntax)
	refuse(t, "large, of no file", seal(body(text, content, "1", "2")), api.ErrSyntax)
}

// Texts whose sums are all zeros, of 8, 9 and (the others) 10 bytes.
const (
	zeros8 = "\xd5\x6b\xb9\x53\x42\x87\x08\x36"
	zeros9 = zeros8 + "\x00"
	zerosA = "!0IC=VloaY"
	zerosB = "QvXtM>@Fp%"
	sum0   = "0000000000000000"
)

// TestP50Sums has different contents of equal sums: their lengths tell them from each other, else the first is taken.
func TestP50Sums(t *testing.T) {
	for _, s := range []string{zeros8, zeros9, zerosA, zerosB} {
		if disk.SumOf(s) != sum0 {
			t.Fatal(s)
		}
	}
	p := small(having("a", data("a", zeros8), data("b", zerosB), data("c", zeros9), data("d", zeros8), data("e", zerosB)))
	b := bundle(t, p, "secret")
	if q, e := pack.Open(b, "secret"); !same(q, p) || e != api.OK {
		t.Error(q, e)
	}
	want := []api.Content{{Sum: sum0, Length: 8, Files: []string{"a", "d"}}, {Sum: sum0, Length: 10, Files: []string{"b", "e"}}, {Sum: sum0, Length: 9, Files: []string{"c"}}}
	if l, e := pack.List(b); !same(l, want) || e != api.OK {
		t.Error(l, e)
	}
	if s, e := pack.Take(b, sum0); s != zeros8 || e != api.OK {
		t.Error(s, e)
	}
	p = small(having("a", data("a", zerosB), data("b", zerosA)))
	b = bundle(t, p, "secret")
	text, _ := pack.Print(p)
	if string(b) != string(seal(body(text, zerosB, zerosA))) {
		t.Errorf("%q", b)
	}
	refuse(t, "equal sums", b, api.ErrSyntax)
	q, e := pack.Open(seal(body(text, zerosA)), "secret")
	if !same(q, small(having("a", data("a", zerosA), data("b", zerosA)))) || e != api.OK {
		t.Error(q, e)
	}
}

func TestP51List(t *testing.T) {
	for i, c := range []struct {
		p    api.Package
		want []api.Content
	}{
		{some(), []api.Content{{Sum: disk.SumOf("\x00app"), Length: 4, Files: []string{"bin/app", "lib/words"}}, {Sum: disk.SumOf("a\n"), Length: 2, Files: []string{"etc/app.conf"}}, {Sum: zero, Length: 0, Files: []string{"var/data"}}}},
		{small(part("a")), nil},
		// Files are in the order of the package, not of their paths.
		{small(having("a", data("z", "1"), data("y", "2"), data("x", "1")), having("b", data("A", "2"), data("B", "1"))),
			[]api.Content{{Sum: disk.SumOf("1"), Length: 1, Files: []string{"z", "x", "B"}}, {Sum: disk.SumOf("2"), Length: 1, Files: []string{"y", "A"}}}},
	} {
		b := bundle(t, c.p, "secret")
		if l, e := pack.List(b); !same(l, c.want) || e != api.OK {
			t.Errorf("List %d: %v, %d", i, l, e)
		}
		// The seal is not looked at.
		copy(b[len(b)-16:], "\x00\xffno seal at all!")
		if l, e := pack.List(b); !same(l, c.want) || e != api.OK {
			t.Errorf("List %d: %v, %d", i, l, e)
		}
		if l, e := pack.List(b[:len(b)-1]); len(l) != 0 || e != api.ErrSyntax {
			t.Errorf("List %d: %v, %d", i, l, e)
		}
	}
}

func TestP51Take(t *testing.T) {
	b := bundle(t, some(), "secret")
	copy(b[len(b)-16:], "\x00\xffno seal at all!")
	for _, want := range []string{"\x00app", "a\n", ""} {
		if s, e := pack.Take(b, disk.SumOf(want)); s != want || e != api.OK {
			t.Errorf("Take: %q, %d", s, e)
		}
	}
	for _, sum := range []string{"", "x", disk.SumOf("b\n"), disk.SumOf("a\n")[1:], disk.SumOf("a\n") + "0", strings.ToUpper(disk.SumOf("a\n")), sum0} {
		if s, e := pack.Take(b, sum); s != "" || e != api.ErrNone {
			t.Errorf("Take(%q): %q, %d", sum, s, e)
		}
	}
	if s, e := pack.Take(bundle(t, small(part("a")), ""), zero); s != "" || e != api.ErrNone {
		t.Error(s, e)
	}
	if s, e := pack.Take(b[1:], "x"); s != "" || e != api.ErrSyntax {
		t.Error(s, e)
	}
}

// TestP265 opens bundles of packages made by chance, whole and with a byte changed.
func TestP265(t *testing.T) {
	rnd := rand.New(rand.NewPCG(9, 10))
	for range 1000 {
		p := guessGood(rnd)
		secret := long(rnd.IntN(4))
		b := bundle(t, p, secret)
		if q, e := pack.Open(b, secret); !same(q, p) || e != api.OK {
			t.Fatal(p, q, e)
		}
		b[rnd.IntN(len(b))] += byte(1 + rnd.IntN(255))
		if q, e := pack.Open(b, secret); !isNone(q) || e != api.ErrSum && e != api.ErrSyntax {
			t.Fatal(p, q, e)
		}
	}
}
