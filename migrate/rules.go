package migrate

import (
	"cmp"
	"slices"
	"strings"

	"outfitter/api"
	"outfitter/ver"
)

// form says with which word a kind of rule begins, and which fields it uses besides Key.
type form struct {
	word                  string
	hasTo, hasOld, hasNew bool
}

// formOf returns the form of a kind; where there is no such kind, the word is empty.
func formOf(kind int) form {
	switch kind {
	case api.RuleRename:
		return form{word: "rename", hasTo: true}
	case api.RulePrefix:
		return form{word: "prefix", hasTo: true}
	case api.RuleCopy:
		return form{word: "copy", hasTo: true}
	case api.RuleSet:
		return form{word: "set", hasNew: true}
	case api.RuleDefault:
		return form{word: "default", hasNew: true}
	case api.RuleDrop:
		return form{word: "drop"}
	case api.RuleMap:
		return form{word: "map", hasOld: true, hasNew: true}
	case api.RuleSwap:
		return form{word: "swap", hasOld: true, hasNew: true}
	}
	return form{}
}

// CheckRule validates a rule.
func CheckRule(r api.Rule) api.Errno {
	f := formOf(r.Kind)
	isExtra := r.To != "" && !f.hasTo || r.Old != "" && !f.hasOld || r.New != "" && !f.hasNew
	isLoop := isBelow(r.Key, r.To) || isBelow(r.To, r.Key)
	return cmp.Or(
		when(f.word == "", api.ErrKind),
		when(!ver.IsPath(r.Key) || f.hasTo && !ver.IsPath(r.To), api.ErrName),
		when(isExtra || !ver.IsValue(r.Old) || !ver.IsValue(r.New), api.ErrForm),
		when(r.Key == r.To, api.ErrConflict),
		when(r.Kind == api.RulePrefix && isLoop, api.ErrLoop),
		when(f.hasOld && r.Old == r.New, api.ErrConflict),
	)
}

// Inverse returns the rule that goes back.
func Inverse(r api.Rule) (api.Rule, api.Errno) {
	if e := CheckRule(r); e != api.OK {
		return api.Rule{}, e
	}
	switch r.Kind {
	case api.RuleRename, api.RulePrefix:
		r.Key, r.To = r.To, r.Key
	case api.RuleMap:
		r.Old, r.New = r.New, r.Old
	case api.RuleSwap:
	default:
		return api.Rule{}, api.ErrState
	}
	return r, api.OK
}

// InverseAll returns the rules that go back, in the order in which they do.
func InverseAll(l []api.Rule) ([]api.Rule, api.Errno) {
	if len(l) > api.MaxRules {
		return nil, api.ErrLarge
	}
	var back []api.Rule
	for _, r := range l {
		b, e := Inverse(r)
		if e != api.OK {
			return nil, e
		}
		back = append(back, b)
	}
	slices.Reverse(back)
	return back, api.OK
}

// isBelow reports whether a key is another one with `/` and something behind it.
func isBelow(key, top string) bool {
	behind, is := strings.CutPrefix(key, top)
	return is && strings.HasPrefix(behind, "/")
}

// when returns an error if something is wrong.
func when(wrong bool, e api.Errno) api.Errno {
	if wrong {
		return e
	}
	return api.OK
}
