package pack

import (
	"outfitter/api"
	"outfitter/disk"
	"outfitter/ver"
)

const (
	head      = "OUT1"
	textBytes = 8 // of the number that tells how long the text is
	sizeBytes = 4 // of the other numbers
	maxBundle = 2 * api.MaxText
)

// sealed is a bundle that has been taken apart.
type sealed struct {
	text     string
	contents []string
	body     string // all ahead of the seal
	seal     string
}

// unpacked is what a bundle holds.
type unpacked struct {
	p        api.Package
	contents []string
	places   []int // of the contents of the files of p, in order
}

// Bundle makes a bundle of a package.
func Bundle(p api.Package, secret string) ([]byte, api.Errno) {
	text, e := Print(p)
	if e != api.OK {
		return nil, e
	}
	if !ver.IsValue(secret) {
		return nil, api.ErrForm
	}
	var contents []string
	twice := again[string]()
	for f := range allFiles(p) {
		if !twice(f.Data) {
			contents = append(contents, f.Data)
		}
	}
	b := appendSized([]byte(head), text, textBytes)
	b = appendNumber(b, len(contents), sizeBytes)
	for _, content := range contents {
		b = appendSized(b, content, sizeBytes)
	}
	return append(b, sealOf(secret, string(b))...), api.OK
}

// Open returns the package of a bundle.
func Open(b []byte, secret string) (api.Package, api.Errno) {
	if !ver.IsValue(secret) {
		return api.Package{}, api.ErrForm
	}
	u, e := unpack(b, func(s sealed) bool { return s.seal == sealOf(secret, s.body) })
	return u.p, e
}

// List tells which contents a bundle holds.
func List(b []byte) ([]api.Content, api.Errno) {
	u, e := unpack(b, unsealed)
	if e != api.OK {
		return nil, e
	}
	var l []api.Content
	for _, content := range u.contents {
		l = append(l, api.Content{Sum: disk.SumOf(content), Length: len(content)})
	}
	number := 0
	for f := range allFiles(u.p) {
		c := &l[u.places[number]]
		c.Files = append(c.Files, f.Path)
		number++
	}
	return l, api.OK
}

// Take returns the first content with a sum.
func Take(b []byte, sum string) (string, api.Errno) {
	u, e := unpack(b, unsealed)
	if e != api.OK {
		return "", e
	}
	for _, content := range u.contents {
		if disk.SumOf(content) == sum {
			return content, api.OK
		}
	}
	return "", api.ErrNone
}

// unsealed is for those who have no secret: any seal is right.
func unsealed(sealed) bool { return true }

// unpack is Open with a way to look at the seal.
func unpack(b []byte, isRight func(sealed) bool) (unpacked, api.Errno) {
	if len(b) > maxBundle {
		return unpacked{}, api.ErrLarge
	}
	s, ok := split(string(b))
	switch {
	case !ok:
		return unpacked{}, api.ErrSyntax
	case !isRight(s):
		return unpacked{}, api.ErrSum
	}
	p, marks, _, e := parse(s.text)
	if e != api.OK {
		return unpacked{}, e
	}
	places, e := findContents(marks, s.contents)
	if e != api.OK {
		return unpacked{}, e
	}
	fill(p, s.contents, places)
	if e := Check(p); e != api.OK {
		return unpacked{}, e
	}
	return unpacked{p, s.contents, places}, api.OK
}

// findContents returns the places of the contents that have these marks.
func findContents(marks []mark, contents []string) ([]int, api.Errno) {
	first := map[mark]int{}
	for i, content := range contents {
		m := mark{disk.SumOf(content), len(content)}
		if _, there := first[m]; !there {
			first[m] = i
		}
	}
	var places []int
	for _, m := range marks {
		i, there := first[m]
		if !there {
			return nil, api.ErrNone
		}
		places = append(places, i)
	}
	// The contents stand as they first occur, so that no file reaches behind the next one.
	next := 0
	for _, i := range places {
		if i > next {
			return nil, api.ErrSyntax
		}
		if i == next {
			next++
		}
	}
	if next < len(contents) {
		return nil, api.ErrSyntax
	}
	return places, api.OK
}

// fill gives the files of a package, in order, their Data.
func fill(p api.Package, contents []string, places []int) {
	for _, c := range p.Components {
		for i := range c.Items {
			if isFile(c.Items[i]) {
				c.Items[i].File.Data = contents[places[0]]
				places = places[1:]
			}
		}
	}
}

// split takes a bundle apart, and reports whether nothing is missing or left.
func split(b string) (sealed, bool) {
	s := sealed{}
	rest := b
	short := false
	take := func(many uint64) string {
		if many > uint64(len(rest)) {
			short, many = true, 0
		}
		taken := rest[:many]
		rest = rest[many:]
		return taken
	}
	begins := take(uint64(len(head))) == head
	s.text = take(readBig(take(textBytes)))
	for many := readBig(take(sizeBytes)); many > 0 && !short; many-- {
		s.contents = append(s.contents, take(readBig(take(sizeBytes))))
	}
	s.body = b[:len(b)-len(rest)]
	s.seal = take(sumDigits)
	return s, begins && !short && rest == ""
}

func sealOf(secret, body string) string { return disk.SumOf(secret + "\x00" + body) }

// appendSized writes a text, and ahead of it how long it is.
func appendSized(b []byte, text string, bytes int) []byte {
	return append(appendNumber(b, len(text), bytes), text...)
}

// appendNumber writes a number, its highest byte first.
func appendNumber(b []byte, n, bytes int) []byte {
	for i := bytes - 1; i >= 0; i-- {
		b = append(b, byte(n>>(8*i)))
	}
	return b
}

// readBig reads what appendNumber writes.
func readBig(s string) uint64 {
	var n uint64
	for i := range len(s) {
		n = n<<8 | uint64(s[i])
	}
	return n
}
