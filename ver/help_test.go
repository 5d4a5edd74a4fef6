package ver_test

import (
	"strings"
	"testing"

	"outfitter/api"
	"outfitter/ver"
)

func parse(t *testing.T, text string) api.Version {
	t.Helper()
	v, e := ver.Parse(text)
	if e != api.OK {
		t.Fatalf("Parse(%q): %d", text, e)
	}
	return v
}

func parseRange(t *testing.T, text string) api.Range {
	t.Helper()
	r, e := ver.ParseRange(text)
	if e != api.OK {
		t.Fatalf("ParseRange(%q): %d", text, e)
	}
	return r
}

func parseCond(t *testing.T, text string) api.Cond {
	t.Helper()
	c, at, e := ver.ParseCond(text)
	if e != api.OK || at != 0 {
		t.Fatalf("ParseCond(%q): %d at %d", text, e, at)
	}
	return c
}

func printRange(t *testing.T, r api.Range) string {
	t.Helper()
	text, e := ver.PrintRange(r)
	if e != api.OK {
		t.Fatalf("PrintRange(%v): %d", r, e)
	}
	return text
}

// from, to and both make spans without looking at their versions.
func from(v api.Version) api.Span { return api.Span{HasFrom: true, From: v} }

func to(v api.Version) api.Span { return api.Span{HasTo: true, To: v} }

func both(v, w api.Version) api.Span { return api.Span{HasFrom: true, From: v, HasTo: true, To: w} }

func spans(l ...api.Span) api.Range { return api.Range{Spans: l} }

func major(n int) api.Version { return api.Version{Major: n} }

// cond makes a condition of a kind that joins others.
func cond(kind int, args ...api.Cond) api.Cond { return api.Cond{Kind: kind, Args: args} }

func always() api.Cond { return cond(api.CondTrue) }

// nested is a condition so many levels within as many of CondNot.
func nested(levels int, c api.Cond) api.Cond {
	for range levels {
		c = cond(api.CondNot, c)
	}
	return c
}

func many(n int, c api.Cond) []api.Cond {
	var l []api.Cond
	for range n {
		l = append(l, c)
	}
	return l
}

func long(n int) string { return strings.Repeat("a", n) }

var (
	badRange = api.Version{Major: -1}
	badForm  = api.Version{Early: "A"}
	badBoth  = api.Version{Patch: api.MaxNumber + 1, Early: "A"}
)
