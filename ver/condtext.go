package ver

import (
	"strings"

	"outfitter/api"
)

const (
	maxCondText = 4000
	maxNest     = 100 // brackets and words not within each other
)

// Kinds of tokens, besides the bytes ( ) and = themselves.
const (
	tokenEnd  = 'e'
	tokenWord = 'w'
	tokenText = '"'
	tokenBad  = '!' // a text in quotes that is wrong
)

type token struct {
	kind byte
	text string // of a word; of a text in quotes what it means
	at   int
}

// reader reads a condition. When one of its methods says that it failed, due is what cannot stand there.
type reader struct {
	text string
	at   int // where what follows due begins
	due  token
	nest int
}

// PrintCond writes a condition.
func PrintCond(c api.Cond) (string, api.Errno) {
	if e := CheckCond(c); e != api.OK {
		return "", e
	}
	return writeCond(c), api.OK
}

// ParseCond reads what PrintCond writes; with ErrSyntax it tells the place.
func ParseCond(text string) (api.Cond, int, api.Errno) {
	if len(text) > maxCondText {
		return api.Cond{}, 0, api.ErrLarge
	}
	r := &reader{text: text}
	r.step()
	c, ok := r.cond()
	if !ok || r.due.kind != tokenEnd {
		return api.Cond{}, r.due.at, api.ErrSyntax
	}
	if e := CheckCond(c); e != api.OK {
		return api.Cond{}, 0, e
	}
	return c, 0, api.OK
}

func writeCond(c api.Cond) string {
	switch c.Kind {
	case api.CondFact:
		return "fact " + c.Name + " = " + quote(c.Value)
	case api.CondSetting:
		return "setting " + c.Name + " = " + quote(c.Value)
	case api.CondHas:
		return "has " + c.Name
	case api.CondVersion:
		return "version " + c.Name + " in " + quote(c.Value)
	case api.CondNot:
		return "not " + writeCond(c.Args[0])
	case api.CondAll:
		return writeGroup("and", c.Args)
	case api.CondAny:
		return writeGroup("or", c.Args)
	}
	return "always"
}

func writeGroup(joint string, args []api.Cond) string {
	var l []string
	// With fewer than two of them the joint would not be seen between them.
	if len(args) < 2 {
		l = append(l, joint)
	}
	for i, arg := range args {
		if i > 0 {
			l = append(l, joint)
		}
		l = append(l, writeCond(arg))
	}
	return "(" + strings.Join(l, " ") + ")"
}

func quote(s string) string {
	return `"` + strings.NewReplacer(`\`, `\\`, `"`, `\"`).Replace(s) + `"`
}

// step makes the next token the one that is due.
func (r *reader) step() {
	for r.at < len(r.text) && isBlank(r.text[r.at]) {
		r.at++
	}
	r.due = token{kind: tokenEnd, at: r.at}
	if r.at == len(r.text) {
		return
	}
	switch c := r.text[r.at]; c {
	case '(', ')', '=':
		r.due.kind = c
		r.at++
	case '"':
		r.quoted()
	default:
		for r.at < len(r.text) && !isBlank(r.text[r.at]) && !strings.Contains(`()="`, r.text[r.at:r.at+1]) {
			r.at++
		}
		r.due.kind, r.due.text = tokenWord, r.text[r.due.at:r.at]
	}
}

// quoted makes the text in quotes that begins here the one that is due.
func (r *reader) quoted() {
	r.due.kind = tokenBad
	var text []byte
	for i := r.at + 1; i < len(r.text); i++ {
		c := r.text[i]
		switch {
		case c == '"':
			r.due.kind, r.due.text, r.at = tokenText, string(text), i+1
			return
		case c == '\\':
			i++
			if i == len(r.text) || r.text[i] != '"' && r.text[i] != '\\' {
				return
			}
			c = r.text[i]
		}
		text = append(text, c)
	}
}

// take goes past a token of this kind, and returns its text.
func (r *reader) take(kind byte) (string, bool) {
	if r.due.kind != kind {
		return "", false
	}
	text := r.due.text
	r.step()
	return text, true
}

func (r *reader) takeWord(word string) bool {
	if r.due.text != word {
		return false
	}
	_, ok := r.take(tokenWord)
	return ok
}

// enter goes past the bracket or the word not that is due, unless it is one too much.
func (r *reader) enter() bool {
	if r.nest == maxNest {
		return false
	}
	r.nest++
	r.step()
	return true
}

func (r *reader) cond() (api.Cond, bool) {
	if r.due.kind == '(' {
		return r.group()
	}
	if r.due.kind != tokenWord {
		return api.Cond{}, false
	}
	switch r.due.text {
	case "always":
		r.step()
		return api.Cond{Kind: api.CondTrue}, true
	case "fact":
		return r.equal(api.CondFact)
	case "setting":
		return r.equal(api.CondSetting)
	case "has":
		r.step()
		key, ok := r.take(tokenWord)
		return api.Cond{Kind: api.CondHas, Name: key}, ok
	case "version":
		return r.version()
	case "not":
		return r.not()
	}
	return api.Cond{}, false
}

// equal reads `fact NAME = "VALUE"`, and that of a setting.
func (r *reader) equal(kind int) (api.Cond, bool) {
	r.step()
	name, ok := r.take(tokenWord)
	if !ok {
		return api.Cond{}, false
	}
	if _, ok = r.take('='); !ok {
		return api.Cond{}, false
	}
	value, ok := r.take(tokenText)
	return api.Cond{Kind: kind, Name: name, Value: value}, ok
}

func (r *reader) version() (api.Cond, bool) {
	r.step()
	name, ok := r.take(tokenWord)
	if !ok || !r.takeWord("in") {
		return api.Cond{}, false
	}
	value, ok := r.take(tokenText)
	return api.Cond{Kind: api.CondVersion, Name: name, Value: value}, ok
}

func (r *reader) not() (api.Cond, bool) {
	if !r.enter() {
		return api.Cond{}, false
	}
	arg, ok := r.cond()
	r.nest--
	return api.Cond{Kind: api.CondNot, Args: []api.Cond{arg}}, ok
}

func (r *reader) group() (api.Cond, bool) {
	if !r.enter() {
		return api.Cond{}, false
	}
	c, ok := r.inside()
	if !ok {
		return api.Cond{}, false
	}
	r.nest--
	_, ok = r.take(')')
	return c, ok
}

// inside reads what stands in brackets.
func (r *reader) inside() (api.Cond, bool) {
	if kind := r.joint(); kind != 0 {
		c := api.Cond{Kind: kind}
		if r.due.kind == ')' {
			return c, true
		}
		arg, ok := r.cond()
		c.Args = []api.Cond{arg}
		return c, ok
	}
	first, ok := r.cond()
	if !ok {
		return api.Cond{}, false
	}
	word := r.due.text
	c := api.Cond{Kind: r.joint(), Args: []api.Cond{first}}
	for more := c.Kind != 0; more; more = r.takeWord(word) {
		arg, ok := r.cond()
		if !ok {
			return api.Cond{}, false
		}
		c.Args = append(c.Args, arg)
	}
	return c, c.Kind != 0
}

// joint goes past a word that joins conditions, and returns the kind that it makes, or 0.
func (r *reader) joint() int {
	switch {
	case r.takeWord("and"):
		return api.CondAll
	case r.takeWord("or"):
		return api.CondAny
	}
	return 0
}
