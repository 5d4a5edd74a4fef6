package migrate

import (
	"strings"

	"outfitter/api"
)

// maxText is how many bytes ParseRule takes.
const maxText = 4000

// PrintRule writes a rule.
func PrintRule(r api.Rule) (string, api.Errno) {
	if e := CheckRule(r); e != api.OK {
		return "", e
	}
	f := formOf(r.Kind)
	words := []string{f.word, r.Key}
	if f.hasTo {
		words = append(words, r.To)
	}
	if f.hasOld {
		words = append(words, quote(r.Old))
	}
	if f.hasNew {
		words = append(words, quote(r.New))
	}
	return strings.Join(words, " "), api.OK
}

// ParseRule reads just what PrintRule writes.
func ParseRule(text string) (api.Rule, api.Errno) {
	if len(text) > maxText {
		return api.Rule{}, api.ErrLarge
	}
	s := scanner{rest: text}
	r := s.rule()
	if s.wrong || s.rest != "" {
		return api.Rule{}, api.ErrSyntax
	}
	if e := CheckRule(r); e != api.OK {
		return api.Rule{}, e
	}
	return r, api.OK
}

func quote(s string) string {
	return `"` + strings.NewReplacer(`\`, `\\`, `"`, `\"`).Replace(s) + `"`
}

// scanner reads a rule word by word.
type scanner struct {
	rest  string
	wrong bool // a word had not its form
}

func (s *scanner) rule() api.Rule {
	r := api.Rule{Kind: kindOf(s.word())}
	f := formOf(r.Kind)
	if f.word == "" {
		s.wrong = true
	}
	s.blank()
	r.Key = s.word()
	if f.hasTo {
		s.blank()
		r.To = s.word()
	}
	if f.hasOld {
		s.blank()
		r.Old = s.quoted()
	}
	if f.hasNew {
		s.blank()
		r.New = s.quoted()
	}
	return r
}

// kindOf returns the kind of rule that begins with a word, or 0.
func kindOf(word string) int {
	for kind := api.RuleRename; kind <= api.RuleSwap; kind++ {
		if formOf(kind).word == word {
			return kind
		}
	}
	return 0
}

// blank goes past the single blank that stands between words.
func (s *scanner) blank() {
	rest, ok := strings.CutPrefix(s.rest, " ")
	s.rest = rest
	s.wrong = s.wrong || !ok
}

// word reads up to the next blank; what a key is, is looked at later.
func (s *scanner) word() string {
	word, _, _ := strings.Cut(s.rest, " ")
	s.rest = s.rest[len(word):]
	s.wrong = s.wrong || word == ""
	return word
}

// quoted reads a text in quotes.
func (s *scanner) quoted() string {
	text, rest, ok := unquote(s.rest)
	s.rest = rest
	s.wrong = s.wrong || !ok
	return text
}

// unquote reads the text in quotes that s begins with, and returns what is behind it.
func unquote(s string) (text, rest string, ok bool) {
	if !strings.HasPrefix(s, `"`) {
		return "", "", false
	}
	var read []byte
	for i := 1; i < len(s); i++ {
		switch s[i] {
		case '"':
			return string(read), s[i+1:], true
		case '\\':
			i++
			if i == len(s) || s[i] != '"' && s[i] != '\\' {
				return "", "", false
			}
		}
		read = append(read, s[i])
	}
	return "", "", false
}
