package stage

import (
	"strconv"
	"strings"

	"outfitter/api"
	"outfitter/disk"
	"outfitter/ver"
)

// How the journal of a machine is.
const (
	journalNone = 0
	journalTorn = 1
	journalRead = 2
)

// maxLine is how many bytes disk.ParseChanges takes.
const maxLine = 4 * api.MaxText

// PrintJournal writes a journal.
func PrintJournal(j api.Journal) (string, api.Errno) {
	if !ver.IsName(j.Id) {
		return "", api.ErrName
	}
	// All changes come ahead of what is too large, however large it is.
	for _, l := range [][]api.Change{j.Changes, j.Old} {
		for _, c := range l {
			if e := disk.CheckChange(c); e != api.OK {
				return "", e
			}
		}
	}
	changes, e := printChanges("changes ", j.Changes)
	if e != api.OK {
		return "", e
	}
	old, e := printChanges("old ", j.Old)
	if e != api.OK {
		return "", e
	}
	text := "journal " + j.Id + "\n" + changes + old
	text += "sum " + disk.SumOf(text) + "\n"
	if len(text) > api.MaxData {
		return "", api.ErrLarge
	}
	return text, api.OK
}

// ParseJournal reads just what PrintJournal writes.
func ParseJournal(text string) (api.Journal, api.Errno) {
	r := reader{rest: text}
	id := r.behind("journal ")
	changes, fault := r.changes("changes ")
	old, oldFault := r.changes("old ")
	body := text[:len(text)-len(r.rest)]
	sum := r.behind("sum ")
	switch {
	case r.wrong || r.rest != "" || !isSum(sum):
		return api.Journal{}, api.ErrSyntax
	case sum != disk.SumOf(body):
		return api.Journal{}, api.ErrSum
	case !ver.IsName(id):
		return api.Journal{}, api.ErrName
	case fault != api.OK:
		return api.Journal{}, fault
	case oldFault != api.OK:
		return api.Journal{}, oldFault
	case len(text) > api.MaxData:
		return api.Journal{}, api.ErrLarge
	}
	return api.Journal{Id: id, Changes: changes, Old: old}, api.OK
}

// Look reads the journal of a machine, and tells how it is.
func Look(m api.Machine) (api.Journal, int, api.Errno) {
	f, e := disk.File(m, journalFile)
	if e == api.ErrNone {
		return api.Journal{}, journalNone, api.OK
	}
	if e != api.OK {
		return api.Journal{}, 0, e
	}
	j, e := ParseJournal(f.Data)
	if e != api.OK {
		return api.Journal{}, journalTorn, api.OK
	}
	return j, journalRead, api.OK
}

// printChanges writes how many changes there are, behind a word, and these.
func printChanges(word string, l []api.Change) (string, api.Errno) {
	lines, e := disk.PrintChanges(l)
	return word + strconv.Itoa(len(l)) + "\n" + lines, e
}

// reader reads a journal line by line.
type reader struct {
	rest  string
	wrong bool // a line had not its form
}

// line reads a line, with its line feed; without one it is wrong.
func (r *reader) line() string {
	end := strings.IndexByte(r.rest, '\n') + 1
	line := r.rest[:end]
	r.rest = r.rest[end:]
	if line == "" {
		r.wrong = true
	}
	return line
}

// behind reads a line, and returns what stands behind a word that it begins with.
func (r *reader) behind(word string) string {
	line := r.line()
	if !strings.HasPrefix(line, word) {
		r.wrong = true
		return ""
	}
	return line[len(word) : len(line)-1]
}

// changes reads how many changes there are, behind a word, and these; it returns also what is wrong with the first bad
// one of those that have their form.
func (r *reader) changes(word string) ([]api.Change, api.Errno) {
	many := r.number(word)
	var l []api.Change
	fault := api.OK
	for i := 0; i < many && !r.wrong; i++ {
		one, _, e := disk.ParseChanges(brief(r.line()))
		switch {
		case e == api.ErrSyntax:
			r.wrong = true
		case fault == api.OK:
			fault = e
		}
		l = append(l, one...)
	}
	return l, fault
}

// brief cuts the words of a line that is too long for disk.ParseChanges, which has the same to say of what it returns:
// a word that was cut is still too long for whatever it can be.
func brief(line string) string {
	if len(line) <= maxLine {
		return line
	}
	cut := func(s string) string { return s[:min(len(s), api.MaxData+1)] }
	kind, rest, _ := strings.Cut(strings.TrimSuffix(line, "\n"), " ")
	key, quoted, _ := strings.Cut(rest, " ")
	switch kind {
	case "put", "putrun", "set":
		text, e := disk.Unquote(quoted)
		if e != api.OK {
			return kind + "\n" // as wrong as the line is
		}
		return kind + " " + cut(key) + " " + disk.Quote(cut(text)) + "\n"
	}
	// A service has four words; a fifth one is wrong, whatever it is.
	words := strings.SplitN(rest, " ", 5)
	for i, word := range words {
		words[i] = cut(word)
	}
	return cut(kind) + " " + strings.Join(words, " ") + "\n"
}

// number reads a line with a number behind a word.
func (r *reader) number(word string) int {
	digits := r.behind(word)
	n, err := strconv.Atoi(digits)
	if err != nil || n < 0 || strconv.Itoa(n) != digits {
		r.wrong = true
	}
	return n
}

// isSum reports whether s can be a sum.
func isSum(s string) bool {
	return len(s) == len(disk.SumOf("")) && strings.Trim(s, "0123456789abcdef") == ""
}
