package ver

import (
	"slices"
	"strings"

	"outfitter/api"
)

const (
	maxDomains = 20
	maxValues  = 20 // of a domain
)

// world tells the value of a fact, or of a setting, and whether there is one.
type world func(setting bool, name string) (string, bool)

// test is a condition that has been made ready to be asked of many worlds.
type test func(w world) bool

// Holds reports whether a condition holds for facts and settings.
func Holds(c api.Cond, facts, settings []api.Setting) (bool, api.Errno) {
	if e := CheckCond(c); e != api.OK {
		return false, e
	}
	if e := checkPairs(facts, IsName); e != api.OK {
		return false, e
	}
	if e := checkPairs(settings, IsPath); e != api.OK {
		return false, e
	}
	holds := ready(c)
	return holds(worldOf(facts, settings)), api.OK
}

// Always tells whether a condition holds in all worlds of some domains, and whether it holds in none.
func Always(c api.Cond, facts []api.Domain) (bool, bool, api.Errno) {
	if e := CheckCond(c); e != api.OK {
		return false, false, e
	}
	if e := checkDomains(facts); e != api.OK {
		return false, false, e
	}
	many := countWorlds(facts)
	if many > api.MaxWorlds {
		return false, false, api.ErrLarge
	}
	if !areKnown(c, facts) {
		return false, false, api.ErrNone
	}
	holds := ready(c)
	every, none := true, true
	for number := range many {
		if holds(worldAt(facts, number)) {
			none = false
		} else {
			every = false
		}
	}
	return every, none, api.OK
}

// ready turns a condition that has been checked into a test.
func ready(c api.Cond) test {
	switch c.Kind {
	case api.CondFact, api.CondSetting:
		return func(w world) bool {
			value, there := w(isOfSetting(c.Kind), c.Name)
			return there && value == c.Value
		}
	case api.CondHas:
		return func(w world) bool {
			_, there := w(true, c.Name)
			return there
		}
	case api.CondVersion:
		return readyVersion(c)
	case api.CondNot:
		arg := ready(c.Args[0])
		return func(w world) bool { return !arg(w) }
	case api.CondAll, api.CondAny:
		return readyGroup(c)
	}
	return func(world) bool { return true }
}

func readyVersion(c api.Cond) test {
	// CheckCond has read it, so there is no error.
	r, _ := ParseRange(c.Value)
	return func(w world) bool {
		value, there := w(false, c.Name)
		if !there {
			return false
		}
		v, e := Parse(value)
		return e == api.OK && has(r, v)
	}
}

func readyGroup(c api.Cond) test {
	var args []test
	for _, arg := range c.Args {
		args = append(args, ready(arg))
	}
	// CondAny looks for one that holds, CondAll for one that does not.
	sought := c.Kind == api.CondAny
	return func(w world) bool {
		found := slices.ContainsFunc(args, func(arg test) bool { return arg(w) == sought })
		return found == sought
	}
}

func checkPairs(l []api.Setting, isKey func(string) bool) api.Errno {
	for i, s := range l {
		switch {
		case !isKey(s.Key):
			return api.ErrName
		case !IsValue(s.Value):
			return api.ErrForm
		case i > 0 && s.Key <= l[i-1].Key:
			return api.ErrOrder
		}
	}
	return api.OK
}

// worldOf is the world of facts and settings, each by Key.
func worldOf(facts, settings []api.Setting) world {
	return func(setting bool, name string) (string, bool) {
		l := facts
		if setting {
			l = settings
		}
		i, there := slices.BinarySearchFunc(l, name, func(s api.Setting, key string) int {
			return strings.Compare(s.Key, key)
		})
		if !there {
			return "", false
		}
		return l[i].Value, true
	}
}

func checkDomains(l []api.Domain) api.Errno {
	if len(l) > maxDomains {
		return api.ErrLarge
	}
	for i, d := range l {
		isKey := IsName
		if d.Setting {
			isKey = IsPath
		}
		switch {
		case !isKey(d.Name):
			return api.ErrName
		case domainOf(l[:i], d.Setting, d.Name) >= 0:
			return api.ErrTwice
		}
		if e := checkValues(d); e != api.OK {
			return e
		}
	}
	return api.OK
}

func checkValues(d api.Domain) api.Errno {
	switch {
	case len(d.Values) == 0 && !d.Absent:
		return api.ErrEmpty
	case len(d.Values) > maxValues:
		return api.ErrLarge
	}
	for i, value := range d.Values {
		switch {
		case !IsValue(value):
			return api.ErrForm
		case slices.Contains(d.Values[:i], value):
			return api.ErrTwice
		}
	}
	return api.OK
}

// domainOf returns the place of the domain of a fact or a setting, or -1.
func domainOf(l []api.Domain, setting bool, name string) int {
	return slices.IndexFunc(l, func(d api.Domain) bool { return d.Setting == setting && d.Name == name })
}

// choices is how many things can be so for a domain.
func choices(d api.Domain) int {
	if d.Absent {
		return len(d.Values) + 1
	}
	return len(d.Values)
}

// countWorlds returns a number above MaxWorlds, if there are more: all of them could be more than an int holds.
func countWorlds(l []api.Domain) int {
	many := 1
	for _, d := range l {
		if many *= choices(d); many > api.MaxWorlds {
			return many
		}
	}
	return many
}

// worldAt is a world of some domains by its number: its digits, one for each domain, are the places of the values.
func worldAt(l []api.Domain, number int) world {
	places := make([]int, len(l))
	for i, d := range l {
		places[i] = number % choices(d)
		number /= choices(d)
	}
	return func(setting bool, name string) (string, bool) {
		i := domainOf(l, setting, name)
		// The place behind all values is that of nothing.
		if i < 0 || places[i] == len(l[i].Values) {
			return "", false
		}
		return l[i].Values[places[i]], true
	}
}

// areKnown reports whether each fact and setting that a condition uses has a domain.
func areKnown(c api.Cond, l []api.Domain) bool {
	for part := range parts(c) {
		setting := isOfSetting(part.Kind)
		if (setting || isOfFact(part.Kind)) && domainOf(l, setting, part.Name) < 0 {
			return false
		}
	}
	return true
}
