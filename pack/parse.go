package pack

import (
	"slices"
	"strconv"
	"strings"

	"outfitter/api"
	"outfitter/ver"
)

// Kinds of lines, in the order in which they stand: of a package, of each component, of each move.
const (
	atStart = iota
	atPackage
	atNeed
	atBar
	atComponent
	atWhen
	atNeeds
	atItem
	atStep
	atMove
	atRule
)

const (
	maxDigits = 9
	sumDigits = 16
)

// form is that of a line: its kind, those that the line before it can have, and what reads what is behind its first word.
type form struct {
	at, after, until int
	read             func(rest string) api.Errno
}

// mark is what a text tells of the Data of a file.
type mark struct {
	sum    string
	length int
}

// reader reads the lines of a package.
type reader struct {
	p     api.Package
	marks []mark // of its files, in order
	at    int    // the kind of the line before
}

// Parse reads a text as Print writes it; with an error of a line it tells which.
func Parse(text string) (api.Package, int, api.Errno) {
	p, _, line, e := parse(text)
	return p, line, e
}

// parse is Parse, and returns the marks of the files, too.
func parse(text string) (api.Package, []mark, int, api.Errno) {
	if len(text) > api.MaxText {
		return api.Package{}, nil, 0, api.ErrLarge
	}
	r := &reader{}
	if line, e := r.lines(text); e != api.OK {
		return api.Package{}, nil, line, e
	}
	if e := Check(r.p); e != api.OK {
		return api.Package{}, nil, 0, e
	}
	return r.p, r.marks, 0, api.OK
}

// lines reads all lines; with an error it returns the number of the line.
func (r *reader) lines(text string) (int, api.Errno) {
	if text == "" {
		return 0, api.ErrSyntax
	}
	forms := r.forms()
	for number := 0; text != ""; number++ {
		line, rest, ended := strings.Cut(text, "\n")
		// Every line has something behind its first word, if only a space.
		word, behind, spaced := strings.Cut(line, " ")
		f, known := forms[word]
		if !ended || !spaced || !known || r.at < f.after || r.at > f.until {
			return number, api.ErrSyntax
		}
		if e := f.read(behind); e != api.OK {
			return number, e
		}
		r.at = f.at
		text = rest
	}
	return 0, api.OK
}

// forms has the forms of lines by their first words.
func (r *reader) forms() map[string]form {
	return map[string]form{
		"package":   {atPackage, atStart, atStart, r.readPackage},
		"need":      {atNeed, atPackage, atNeed, func(rest string) api.Errno { return readNeed(&r.p.Needs, rest) }},
		"bar":       {atBar, atPackage, atBar, func(rest string) api.Errno { return readNeed(&r.p.Bars, rest) }},
		"component": {atComponent, atPackage, atStep, r.readComponent},
		"when":      {atWhen, atComponent, atComponent, r.readWhen},
		"needs":     {atNeeds, atComponent, atNeeds, r.readNeeds},
		"file":      {atItem, atComponent, atItem, r.readFile},
		"set":       {atItem, atComponent, atItem, r.readSetting},
		"service":   {atItem, atComponent, atItem, r.readService},
		"step":      {atStep, atComponent, atStep, r.readStep},
		"move":      {atMove, atPackage, atRule, r.readMove},
		"rule":      {atRule, atMove, atRule, r.readRule},
	}
}

// component is the one that is being read.
func (r *reader) component() *api.Component { return &r.p.Components[len(r.p.Components)-1] }

func (r *reader) add(x api.Item) {
	c := r.component()
	c.Items = append(c.Items, x)
}

// The errors of ver come behind ErrSyntax, so that the form of a line is looked at first.

func (r *reader) readPackage(rest string) api.Errno {
	name, rest, _ := strings.Cut(rest, " ")
	version, rest, _ := strings.Cut(rest, " ")
	title, end, ok := unquote(rest)
	if name == "" || !ok || end != "" {
		return api.ErrSyntax
	}
	v, e := ver.Parse(version)
	r.p.Name, r.p.Version, r.p.Title = name, v, title
	return e
}

func readNeed(l *[]api.Need, rest string) api.Errno {
	name, text, _ := strings.Cut(rest, " ")
	if name == "" {
		return api.ErrSyntax
	}
	r, e := ver.ParseRange(text)
	*l = append(*l, api.Need{Name: name, Range: r})
	return e
}

func (r *reader) readComponent(rest string) api.Errno {
	name, rest, _ := strings.Cut(rest, " ")
	title, end, ok := unquote(rest)
	if name == "" || !ok {
		return api.ErrSyntax
	}
	c := api.Component{Name: name, Title: title, When: api.Cond{Kind: api.CondTrue}}
	end, c.Default = strings.CutPrefix(end, " default")
	end, c.Always = strings.CutPrefix(end, " always")
	r.p.Components = append(r.p.Components, c)
	return when(end != "", api.ErrSyntax)
}

func (r *reader) readWhen(rest string) api.Errno {
	c, _, e := ver.ParseCond(rest)
	r.component().When = c
	return e
}

func (r *reader) readNeeds(rest string) api.Errno {
	c := r.component()
	c.Needs = append(c.Needs, rest)
	return when(!isWord(rest), api.ErrSyntax)
}

func (r *reader) readFile(rest string) api.Errno {
	words, runs, ok := readWords(rest, 4, "runs")
	if !ok || !isSum(words[2]) {
		return api.ErrSyntax
	}
	kind := slices.Index(fileKinds(), words[0])
	length, ok := readNumber(words[3])
	if kind < 0 || !ok || length > api.MaxData {
		return api.ErrSyntax
	}
	r.add(api.Item{Kind: api.ItemProgram + kind, File: api.File{Path: words[1], Runs: runs}})
	r.marks = append(r.marks, mark{words[2], length})
	return api.OK
}

func (r *reader) readSetting(rest string) api.Errno {
	key, rest, _ := strings.Cut(rest, " ")
	value, end, ok := unquote(rest)
	r.add(api.Item{Kind: api.ItemSetting, Setting: api.Setting{Key: key, Value: value}})
	return when(key == "" || !ok || end != "", api.ErrSyntax)
}

func (r *reader) readService(rest string) api.Errno {
	words, auto, ok := readWords(rest, 2, "auto")
	if !ok {
		return api.ErrSyntax
	}
	r.add(api.Item{Kind: api.ItemService, Service: api.Service{Name: words[0], Path: words[1], Auto: auto}})
	return api.OK
}

func (r *reader) readStep(rest string) api.Errno {
	number, rest, _ := strings.Cut(rest, " ")
	kind, isKind := readNumber(number)
	name, rest, _ := strings.Cut(rest, " ")
	value, end, ok := unquote(rest)
	c := r.component()
	c.Steps = append(c.Steps, api.Step{Kind: kind, Name: name, Value: value})
	return when(!isKind || name == "" || !ok || end != "", api.ErrSyntax)
}

func (r *reader) readMove(rest string) api.Errno {
	// A range can have spaces, a version has none.
	last := strings.LastIndexByte(rest, ' ')
	if last < 0 {
		return api.ErrSyntax
	}
	from, e := ver.ParseRange(rest[:last])
	if e != api.OK {
		return e
	}
	to, e := ver.Parse(rest[last+1:])
	r.p.Moves = append(r.p.Moves, api.Move{From: from, To: to})
	return e
}

func (r *reader) readRule(rest string) api.Errno {
	m := &r.p.Moves[len(r.p.Moves)-1]
	m.Rules = append(m.Rules, rest)
	return api.OK
}

// readWords reads so many words, and reports whether a last one, which can be missing, is behind them.
func readWords(s string, many int, last string) (words []string, marked, ok bool) {
	// The last one holds all that is too much, too, however long it is.
	words = strings.SplitN(s, " ", many+1)
	marked = len(words) == many+1 && words[many] == last
	if !marked && len(words) != many || slices.Contains(words, "") {
		return nil, false, false
	}
	return words[:many], marked, true
}

// isWord reports whether s can be a name, path or key in a line; what it is there is looked at later.
func isWord(s string) bool { return s != "" && !strings.Contains(s, " ") }

// isSum reports whether s is digits as disk.SumOf writes them.
func isSum(s string) bool {
	isOther := func(c rune) bool { return !strings.ContainsRune("0123456789abcdef", c) }
	return len(s) == sumDigits && !strings.ContainsFunc(s, isOther)
}

func readNumber(s string) (int, bool) {
	n, err := strconv.Atoi(s)
	// Atoi reads signs and superfluous zeros, too, which are not written.
	if err != nil || n < 0 || len(s) > maxDigits || strconv.Itoa(n) != s {
		return 0, false
	}
	return n, true
}

// unquote reads the text in quotes that s begins with, and returns what is behind it.
func unquote(s string) (text, rest string, ok bool) {
	if !strings.HasPrefix(s, `"`) {
		return "", "", false
	}
	var read []byte
	for i := 1; i < len(s); i++ {
		switch s[i] {
		case '"':
			return string(read), s[i+1:], true
		case '\\':
			i++
			if i == len(s) || s[i] != '"' && s[i] != '\\' {
				return "", "", false
			}
		}
		read = append(read, s[i])
	}
	return "", "", false
}
