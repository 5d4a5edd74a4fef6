package ver

import (
	"strings"

	"outfitter/api"
)

const (
	maxRangeText = 1000
	between      = ", " // two spans
)

// spelt is a span as a text has it: what it does with its versions, and these, not yet looked at.
type spelt struct {
	sign     string // of >= < * = ^ ~, and >=< for >=FROM <TO
	from, to string // from is also the only one of = ^ ~
}

// PrintRange writes a range.
func PrintRange(r api.Range) (string, api.Errno) {
	if e := CheckRange(r); e != api.OK {
		return "", e
	}
	if len(r.Spans) == 0 {
		return "none", api.OK
	}
	var spans []string
	for _, s := range r.Spans {
		spans = append(spans, writeSpan(s))
	}
	return strings.Join(spans, between), api.OK
}

// ParseRange reads what PrintRange writes, and shorter forms.
func ParseRange(text string) (api.Range, api.Errno) {
	if len(text) > maxRangeText {
		return api.Range{}, api.ErrLarge
	}
	if text == "none" {
		return api.Range{}, api.OK
	}
	// ErrSyntax comes first wherever it is, so that all is spelt out ahead of all that is made.
	var l []spelt
	for _, part := range strings.Split(text, between) {
		s, ok := spell(part)
		if !ok {
			return api.Range{}, api.ErrSyntax
		}
		l = append(l, s)
	}
	var r api.Range
	for _, s := range l {
		span, e := makeSpan(s)
		if e != api.OK {
			return api.Range{}, e
		}
		r.Spans = append(r.Spans, span)
	}
	if e := CheckRange(r); e != api.OK {
		return api.Range{}, e
	}
	return r, api.OK
}

func writeSpan(s api.Span) string {
	switch {
	case s.HasFrom && s.HasTo:
		return ">=" + write(s.From) + " <" + write(s.To)
	case s.HasFrom:
		return ">=" + write(s.From)
	case s.HasTo:
		return "<" + write(s.To)
	}
	return "*"
}

// spell takes a span's text apart, and reports whether it has its form.
func spell(text string) (spelt, bool) {
	if text == "*" {
		return spelt{sign: "*"}, true
	}
	if rest, ok := strings.CutPrefix(text, ">="); ok {
		from, to, two := strings.Cut(rest, " <")
		if two {
			return spelt{">=<", from, to}, isSpelt(from) && isSpelt(to)
		}
		return spelt{sign: ">=", from: from}, isSpelt(from)
	}
	if to, ok := strings.CutPrefix(text, "<"); ok {
		return spelt{sign: "<", to: to}, isSpelt(to)
	}
	for _, sign := range []string{"=", "^", "~"} {
		if from, ok := strings.CutPrefix(text, sign); ok {
			return spelt{sign: sign, from: from}, isSpelt(from)
		}
	}
	return spelt{sign: "^", from: text}, isSpelt(text)
}

// isSpelt reports whether a text is a version but for its sizes and the form of Early; in a range this has no blanks.
func isSpelt(text string) bool {
	_, ok := read(text)
	return ok && all(text, func(c byte) bool { return !isBlank(c) })
}

func makeSpan(s spelt) (api.Span, api.Errno) {
	var from, to api.Version
	var e api.Errno
	if s.from != "" {
		if from, e = Parse(s.from); e != api.OK {
			return api.Span{}, e
		}
	}
	if s.to != "" {
		if to, e = Parse(s.to); e != api.OK {
			return api.Span{}, e
		}
	}
	switch s.sign {
	case ">=":
		return api.Span{HasFrom: true, From: from}, api.OK
	case "<":
		return api.Span{HasTo: true, To: to}, api.OK
	case "*":
		return api.Span{}, api.OK
	case "=", "^", "~":
		if to, e = after(s.sign, from); e != api.OK {
			return api.Span{}, e
		}
	}
	return api.Span{HasFrom: true, From: from, HasTo: true, To: to}, api.OK
}

// after returns the first version behind those that a sign takes in from v on.
func after(sign string, v api.Version) (api.Version, api.Errno) {
	switch {
	case sign == "^" && v.Major != 0:
		return Next(v, 0)
	case sign == "^", sign == "~":
		return Next(v, 1)
	}
	next := v
	if v.Early != "" {
		next.Early += ".0"
	} else {
		var e api.Errno
		if next, e = Next(v, 2); e != api.OK {
			return api.Version{}, e
		}
		next.Early = "0"
	}
	if e := Check(next); e != api.OK {
		return api.Version{}, e
	}
	return next, api.OK
}
