package ver

import (
	"iter"
	"slices"

	"outfitter/api"
)

// maxLevel is how far within a condition a part of it may be.
const maxLevel = 20

// CheckCond validates a condition.
func CheckCond(c api.Cond) api.Errno {
	count, deepest := 0, 0
	for _, level := range parts(c) {
		// Slices can hold themselves: such a condition never ends, so it must not be gone through before this.
		if count++; count > api.MaxCond {
			return api.ErrLarge
		}
		deepest = max(deepest, level)
	}
	for part := range parts(c) {
		if e := checkPart(part); e != api.OK {
			return e
		}
	}
	if deepest > maxLevel {
		return api.ErrLarge
	}
	return api.OK
}

// Names returns the facts and settings that a condition uses.
func Names(c api.Cond) ([]string, api.Errno) {
	if e := CheckCond(c); e != api.OK {
		return nil, e
	}
	var names []string
	for part := range parts(c) {
		switch {
		case isOfFact(part.Kind):
			names = append(names, "fact "+part.Name)
		case isOfSetting(part.Kind):
			names = append(names, "setting "+part.Name)
		}
	}
	slices.Sort(names)
	return slices.Compact(names), api.OK
}

// parts goes through a condition and all parts within it, each ahead of those within it, with their levels.
func parts(c api.Cond) iter.Seq2[api.Cond, int] {
	return func(yield func(api.Cond, int) bool) { visit(c, 0, yield) }
}

// visit reports whether to go on.
func visit(c api.Cond, level int, yield func(api.Cond, int) bool) bool {
	if !yield(c, level) {
		return false
	}
	for _, arg := range c.Args {
		if !visit(arg, level+1, yield) {
			return false
		}
	}
	return true
}

func isOfFact(kind int) bool { return kind == api.CondFact || kind == api.CondVersion }

func isOfSetting(kind int) bool { return kind == api.CondSetting || kind == api.CondHas }

// checkPart looks at a part alone, not at those within it.
func checkPart(c api.Cond) api.Errno {
	switch {
	case c.Kind < api.CondTrue || c.Kind > api.CondAny:
		return api.ErrKind
	case !hasFields(c):
		return api.ErrForm
	case isOfFact(c.Kind) && !IsName(c.Name):
		return api.ErrName
	case isOfSetting(c.Kind) && !IsPath(c.Name):
		return api.ErrName
	case !IsValue(c.Value):
		return api.ErrForm
	}
	if c.Kind == api.CondVersion {
		_, e := ParseRange(c.Value)
		return e
	}
	return api.OK
}

// hasFields reports whether the fields that a kind does not use are empty, and CondNot has one of Args.
func hasFields(c api.Cond) bool {
	switch c.Kind {
	case api.CondFact, api.CondSetting, api.CondVersion:
		return len(c.Args) == 0
	case api.CondHas:
		return c.Value == "" && len(c.Args) == 0
	case api.CondNot:
		return c.Name == "" && c.Value == "" && len(c.Args) == 1
	case api.CondAll, api.CondAny:
		return c.Name == "" && c.Value == ""
	}
	return c.Name == "" && c.Value == "" && len(c.Args) == 0
}
