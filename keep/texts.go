package keep

import (
	"slices"
	"strings"

	"outfitter/api"
	"outfitter/disk"
)

// maxText is how many bytes the text of a keep may have.
const maxText = 4 * api.MaxText

// kindWords are those of the kinds of items, by their numbers.
func kindWords() []string {
	return []string{"", "program", "shared", "text", "data", "setting", "service"}
}

// Print writes a keep.
func Print(k api.Keep) (string, api.Errno) {
	if e := Check(k); e != api.OK {
		return "", e
	}
	var text []byte
	for _, h := range k.Held {
		// All of them can be far more than may be written: it is seen early.
		if len(text)+len(h.Base) > maxText {
			return "", api.ErrLarge
		}
		text = append(text, writeHeld(h)...)
		text = append(text, '\n')
	}
	if len(text) > maxText {
		return "", api.ErrLarge
	}
	return string(text), api.OK
}

// Parse reads just what Print writes; with ErrSyntax it tells the line.
func Parse(text string) (api.Keep, int, api.Errno) {
	if len(text) > maxText {
		return api.Keep{}, 0, api.ErrLarge
	}
	var k api.Keep
	for number := 0; text != ""; number++ {
		line, rest, ended := strings.Cut(text, "\n")
		h, ok := readHeld(line)
		if !ended || !ok {
			return api.Keep{}, number, api.ErrSyntax
		}
		k.Held = append(k.Held, h)
		text = rest
	}
	if e := Check(k); e != api.OK {
		return api.Keep{}, 0, e
	}
	return k, 0, api.OK
}

func writeHeld(h api.Held) string {
	words := []string{h.Owner, kindWords()[h.Kind], h.Path, h.Sum}
	if h.Kind == api.ItemText {
		words = append(words, disk.Quote(h.Base))
	}
	return strings.Join(words, " ")
}

// readHeld reads a line, and reports whether it has its form; what the words are is looked at by Check.
func readHeld(line string) (api.Held, bool) {
	words := strings.SplitN(line, " ", 5)
	if len(words) < 4 || slices.Contains(words, "") {
		return api.Held{}, false
	}
	h := api.Held{Owner: words[0], Kind: slices.Index(kindWords(), words[1]), Path: words[2], Sum: words[3]}
	if h.Kind != api.ItemText {
		return h, h.Kind > 0 && len(words) == 4
	}
	base, e := disk.Unquote(words[len(words)-1])
	h.Base = base
	return h, len(words) == 5 && e == api.OK
}
