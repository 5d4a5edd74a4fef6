package disk

import (
	"iter"
	"strconv"
	"strings"

	"outfitter/api"
)

// maxText is how many bytes the text of a machine, or of changes, may have.
const maxText = 4 * api.MaxText

const hexDigits = "0123456789abcdef"

// SumOf returns the sum of a text as 16 digits.
func SumOf(text string) string {
	const first, factor = 14695981039346656037, 1099511628211
	sum := uint64(first)
	for i := range len(text) {
		sum = (sum ^ uint64(text[i])) * factor
	}
	digits := strconv.FormatUint(sum, 16)
	return strings.Repeat("0", 16-len(digits)) + digits
}

// Sum returns the sum of the text of a machine.
func Sum(m api.Machine) (string, api.Errno) {
	text, e := Print(m)
	if e != api.OK {
		return "", e
	}
	return SumOf(text), api.OK
}

// Quote writes a string in quotes.
func Quote(s string) string {
	quoted := []byte{'"'}
	for i := range len(s) {
		switch c := s[i]; {
		case c == '\\' || c == '"':
			quoted = append(quoted, '\\', c)
		case c == '\n':
			quoted = append(quoted, '\\', 'n')
		case c < 32 || c > 126:
			quoted = append(quoted, '\\', 'x', hexDigits[c>>4], hexDigits[c&15])
		default:
			quoted = append(quoted, c)
		}
	}
	return string(append(quoted, '"'))
}

// Unquote reads just what Quote writes.
func Unquote(s string) (string, api.Errno) {
	if len(s) < 2 {
		return "", api.ErrSyntax
	}
	var text []byte
	for rest := s[1 : len(s)-1]; rest != ""; {
		c, long := unquoteByte(rest)
		text = append(text, c)
		rest = rest[long:]
	}
	// What Quote writes has been read right, so that all else shows here.
	if Quote(string(text)) != s {
		return "", api.ErrSyntax
	}
	return string(text), api.OK
}

// unquoteByte reads the first byte of a text in quotes, and returns how long it is there; what is wrong it takes as it is.
func unquoteByte(s string) (byte, int) {
	if s[0] != '\\' || len(s) == 1 {
		return s[0], 1
	}
	switch s[1] {
	case 'n':
		return '\n', 2
	case 'x':
		if len(s) < 4 {
			return s[0], 1
		}
		c, err := strconv.ParseUint(s[2:4], 16, 8)
		if err != nil {
			return s[0], 1
		}
		return byte(c), 4
	}
	return s[1], 2
}

// Print writes a machine.
func Print(m api.Machine) (string, api.Errno) {
	if e := Check(m); e != api.OK {
		return "", e
	}
	return join(lines(m.Facts, writeFact), lines(m.Files, writeFile), lines(m.Settings, writeSetting), lines(m.Services, writeService))
}

// Parse reads just what Print writes; with ErrSyntax it tells the line.
func Parse(text string) (api.Machine, int, api.Errno) {
	var m api.Machine
	n, e := readLines(text, func(line string) bool { return readThing(&m, line) })
	if e != api.OK {
		return api.Machine{}, n, e
	}
	if e := Check(m); e != api.OK {
		return api.Machine{}, 0, e
	}
	return m, 0, api.OK
}

// PrintChanges writes changes.
func PrintChanges(l []api.Change) (string, api.Errno) {
	if e := checkChanges(l); e != api.OK {
		return "", e
	}
	return join(lines(l, writeChange))
}

// ParseChanges reads just what PrintChanges writes; with ErrSyntax it tells the line.
func ParseChanges(text string) ([]api.Change, int, api.Errno) {
	var l []api.Change
	n, e := readLines(text, func(line string) bool {
		c, ok := readChange(line)
		l = append(l, c)
		return ok
	})
	if e != api.OK {
		return nil, n, e
	}
	if e := checkChanges(l); e != api.OK {
		return nil, 0, e
	}
	return l, 0, api.OK
}

func checkChanges(l []api.Change) api.Errno {
	for _, c := range l {
		if e := CheckChange(c); e != api.OK {
			return e
		}
	}
	return api.OK
}

// join makes a text of lists of lines. It stops as soon as it is too large: all of them can be far more.
func join(lists ...iter.Seq[string]) (string, api.Errno) {
	var text []byte
	for _, list := range lists {
		for line := range list {
			text = append(text, line...)
			text = append(text, '\n')
			if len(text) > maxText {
				return "", api.ErrLarge
			}
		}
	}
	return string(text), api.OK
}

// readLines reads a text line by line; with ErrSyntax it returns the number of the line.
func readLines(text string, read func(line string) bool) (int, api.Errno) {
	if len(text) > maxText {
		return 0, api.ErrLarge
	}
	for number := 0; text != ""; number++ {
		line, rest, ended := strings.Cut(text, "\n")
		if !ended || !read(line) {
			return number, api.ErrSyntax
		}
		text = rest
	}
	return 0, api.OK
}
