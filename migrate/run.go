package migrate

import (
	"maps"
	"slices"

	"outfitter/api"
	"outfitter/ver"
)

// Run does rules one after the other to settings.
func Run(settings []api.Setting, l []api.Rule) ([]api.Setting, api.Errno) {
	return run(settings, l, func(table, api.Rule) {})
}

// Clean reports whether rules can be gone back from these settings by InverseAll.
func Clean(settings []api.Setting, l []api.Rule) (bool, api.Errno) {
	clean := true
	_, e := run(settings, l, func(t table, r api.Rule) {
		clean = clean && t.isClean(r)
	})
	if e != api.OK {
		return false, e
	}
	if _, e := InverseAll(l); e != api.OK {
		return false, e
	}
	return clean, api.OK
}

// Changes returns what makes settings of old ones.
func Changes(old, settings []api.Setting) ([]api.Change, api.Errno) {
	if e := checkSettings(old); e != api.OK {
		return nil, e
	}
	if e := checkSettings(settings); e != api.OK {
		return nil, e
	}
	var l []api.Change
	before, behind := tableOf(old), tableOf(settings)
	for _, s := range old {
		if !behind.has(s.Key) {
			l = append(l, api.Change{Kind: api.ChangeUnset, Setting: api.Setting{Key: s.Key}})
		}
	}
	for _, s := range settings {
		if !before.has(s.Key) || before[s.Key] != s.Value {
			l = append(l, api.Change{Kind: api.ChangeSet, Setting: s})
		}
	}
	return l, api.OK
}

// run is Run, and shows each rule together with the settings that it finds.
func run(settings []api.Setting, l []api.Rule, show func(table, api.Rule)) ([]api.Setting, api.Errno) {
	if e := checkSettings(settings); e != api.OK {
		return nil, e
	}
	if len(settings) > api.MaxSettings || len(l) > api.MaxRules {
		return nil, api.ErrLarge
	}
	for _, r := range l {
		if e := CheckRule(r); e != api.OK {
			return nil, e
		}
	}
	t := tableOf(settings)
	for _, r := range l {
		show(t, r)
		if e := t.do(r); e != api.OK {
			return nil, e
		}
		if len(t) > api.MaxSettings {
			return nil, api.ErrLarge
		}
	}
	return t.settings(), api.OK
}

// checkSettings looks at settings as conditions do.
func checkSettings(l []api.Setting) api.Errno {
	_, e := ver.Holds(api.Cond{Kind: api.CondTrue}, nil, l)
	return e
}

// table is the values of settings, by their keys.
type table map[string]string

func tableOf(l []api.Setting) table {
	t := table{}
	for _, s := range l {
		t[s.Key] = s.Value
	}
	return t
}

func (t table) settings() []api.Setting {
	var l []api.Setting
	for _, key := range slices.Sorted(maps.Keys(t)) {
		l = append(l, api.Setting{Key: key, Value: t[key]})
	}
	return l
}

func (t table) has(key string) bool {
	_, there := t[key]
	return there
}

// hasWithin reports whether there is a key, or one below it.
func (t table) hasWithin(top string) bool {
	for key := range t {
		if isWithin(key, top) {
			return true
		}
	}
	return false
}

// isClean reports whether what a rule does here can be told from what is here already. (Of kinds that cannot be gone
// back it says nothing.)
func (t table) isClean(r api.Rule) bool {
	switch r.Kind {
	case api.RuleRename:
		return !t.has(r.To)
	case api.RulePrefix:
		return !t.hasWithin(r.To)
	case api.RuleMap:
		return !t.has(r.Key) || t[r.Key] != r.New
	}
	return true
}

// do does a rule; it returns ErrName if this makes a key that is none.
func (t table) do(r api.Rule) api.Errno {
	value, there := t[r.Key]
	switch r.Kind {
	case api.RuleRename:
		if there {
			delete(t, r.Key)
			t[r.To] = value
		}
	case api.RulePrefix:
		return t.exchange(r.Key, r.To)
	case api.RuleCopy:
		if there {
			t[r.To] = value
		}
	case api.RuleSet:
		t[r.Key] = r.New
	case api.RuleDefault:
		if !there {
			t[r.Key] = r.New
		}
	case api.RuleDrop:
		delete(t, r.Key)
	case api.RuleMap, api.RuleSwap:
		switch {
		case there && value == r.Old:
			t[r.Key] = r.New
		case there && value == r.New && r.Kind == api.RuleSwap:
			t[r.Key] = r.Old
		}
	}
	return api.OK
}

// exchange puts another beginning in the place of a key, and of all keys below it.
func (t table) exchange(from, to string) api.Errno {
	var made []api.Setting
	for key, value := range t {
		if !isWithin(key, from) {
			continue
		}
		delete(t, key)
		made = append(made, api.Setting{Key: to + key[len(from):], Value: value})
	}
	for _, s := range made {
		// It has the parts of keys: nothing else than its length can be wrong.
		if len(s.Key) > api.MaxPath {
			return api.ErrName
		}
		t[s.Key] = s.Value
	}
	return api.OK
}

// isWithin reports whether a key is another one, or below it.
func isWithin(key, top string) bool { return key == top || isBelow(key, top) }
