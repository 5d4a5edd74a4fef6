package ver

import (
	"slices"

	"outfitter/api"
)

// maxList is how many versions Greatest takes.
const maxList = 1000

// CheckRange validates a range.
func CheckRange(r api.Range) api.Errno {
	if len(r.Spans) > api.MaxSpans {
		return api.ErrLarge
	}
	for i, s := range r.Spans {
		if e := checkSpan(s); e != api.OK {
			return e
		}
		if i > 0 && !isBehind(s, r.Spans[i-1]) {
			return api.ErrOrder
		}
	}
	return api.OK
}

// Has reports whether a version is in a range.
func Has(r api.Range, v api.Version) (bool, api.Errno) {
	if e := CheckRange(r); e != api.OK {
		return false, e
	}
	if e := Check(v); e != api.OK {
		return false, e
	}
	return has(r, v), api.OK
}

// Common returns what two ranges have in common by their ends.
func Common(a, b api.Range) (api.Range, api.Errno) {
	if e := checkBoth(a, b); e != api.OK {
		return api.Range{}, e
	}
	var both api.Range
	for _, x := range a.Spans {
		for _, y := range b.Spans {
			if s, some := overlap(x, y); some {
				both.Spans = append(both.Spans, s)
			}
		}
	}
	if len(both.Spans) > api.MaxSpans {
		return api.Range{}, api.ErrLarge
	}
	return both, api.OK
}

// Within reports whether b has all that a has, by their ends.
func Within(a, b api.Range) (bool, api.Errno) {
	if e := checkBoth(a, b); e != api.OK {
		return false, e
	}
	for _, x := range a.Spans {
		// Spans of b do not touch, so that no two of them together can cover x.
		covers := func(y api.Span) bool {
			s, _ := overlap(x, y)
			return s == x
		}
		if !slices.ContainsFunc(b.Spans, covers) {
			return false, api.OK
		}
	}
	return true, api.OK
}

// Greatest returns the place of the greatest version of a list that is in a range.
func Greatest(r api.Range, l []api.Version) (int, api.Errno) {
	if e := CheckRange(r); e != api.OK {
		return 0, e
	}
	if len(l) > maxList {
		return 0, api.ErrLarge
	}
	for _, v := range l {
		if e := Check(v); e != api.OK {
			return 0, e
		}
	}
	best := -1
	for i, v := range l {
		if has(r, v) && (best < 0 || order(v, l[best]) > 0) {
			best = i
		}
	}
	if best < 0 {
		return 0, api.ErrNone
	}
	return best, api.OK
}

func checkBoth(a, b api.Range) api.Errno {
	if e := CheckRange(a); e != api.OK {
		return e
	}
	return CheckRange(b)
}

func checkSpan(s api.Span) api.Errno {
	if !s.HasFrom && s.From != (api.Version{}) || !s.HasTo && s.To != (api.Version{}) {
		return api.ErrForm
	}
	// An end that is not set is zero here, and has no error.
	if e := Check(s.From); e != api.OK {
		return e
	}
	if e := Check(s.To); e != api.OK {
		return e
	}
	if s.HasFrom && s.HasTo && order(s.From, s.To) >= 0 {
		return api.ErrOrder
	}
	return api.OK
}

// isBehind reports whether there is something between two spans, and s is the later one.
func isBehind(s, before api.Span) bool {
	return before.HasTo && s.HasFrom && order(s.From, before.To) > 0
}

// has is Has for what has been checked.
func has(r api.Range, v api.Version) bool {
	whole := len(r.Spans) == 1 && r.Spans[0] == (api.Span{})
	return slices.ContainsFunc(r.Spans, func(s api.Span) bool {
		open := v.Early == "" || whole || isEarlyBeside(s.From, v) || isEarlyBeside(s.To, v)
		return open && isBetween(s, v)
	})
}

func isBetween(s api.Span, v api.Version) bool {
	return (!s.HasFrom || order(v, s.From) >= 0) && (!s.HasTo || order(v, s.To) < 0)
}

// isEarlyBeside reports whether an end of a span is early, and has the numbers of v. (One that is not set is not early.)
func isEarlyBeside(end, v api.Version) bool {
	if end.Early == "" {
		return false
	}
	v.Early = end.Early
	return end == v
}

// overlap returns what two spans have in common, and whether that is anything.
func overlap(a, b api.Span) (api.Span, bool) {
	if b.HasFrom && (!a.HasFrom || order(b.From, a.From) > 0) {
		a.HasFrom, a.From = true, b.From
	}
	if b.HasTo && (!a.HasTo || order(b.To, a.To) < 0) {
		a.HasTo, a.To = true, b.To
	}
	return a, !a.HasFrom || !a.HasTo || order(a.From, a.To) < 0
}
