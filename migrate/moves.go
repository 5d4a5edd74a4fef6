package migrate

import (
	"slices"

	"outfitter/api"
	"outfitter/ver"
)

// maxMoves is how many moves Way takes.
const maxMoves = 10 * api.MaxMoves

// CheckMove validates a move.
func CheckMove(m api.Move) api.Errno {
	if e := ver.CheckRange(m.From); e != api.OK {
		return e
	}
	if e := ver.Check(m.To); e != api.OK {
		return e
	}
	if len(m.Rules) > api.MaxRules {
		return api.ErrLarge
	}
	_, e := parseAll(m.Rules)
	return e
}

// Way returns the numbers of the moves that lead from a version to another one.
func Way(l []api.Move, from, to api.Version) ([]int, api.Errno) {
	if len(l) > maxMoves {
		return nil, api.ErrLarge
	}
	for _, m := range l {
		if e := CheckMove(m); e != api.OK {
			return nil, e
		}
	}
	for _, v := range []api.Version{from, to} {
		if e := ver.Check(v); e != api.OK {
			return nil, e
		}
	}
	return search(l, from, to)
}

// Carry runs the rules of all moves of Way.
func Carry(settings []api.Setting, l []api.Move, from, to api.Version) ([]api.Setting, api.Errno) {
	way, e := Way(l, from, to)
	if e != api.OK {
		return nil, e
	}
	// Settings are looked at, and are no more the caller's, also where there is no move to make.
	settings, e = Run(settings, nil)
	for _, i := range way {
		if e != api.OK {
			return nil, e
		}
		rules, _ := parseAll(l[i].Rules) // without an error, since Way has looked at them
		settings, e = Run(settings, rules)
	}
	return settings, e
}

func parseAll(texts []string) ([]api.Rule, api.Errno) {
	var l []api.Rule
	for _, text := range texts {
		r, e := ParseRule(text)
		if e != api.OK {
			return nil, e
		}
		l = append(l, r)
	}
	return l, api.OK
}

// search goes from version to version, each of which it takes up once: on the first way to it, which is one of the
// fewest moves, and the least of these, as those who were taken up first were reached so, too. (Two versions that
// ver.Compare calls equal are the same.)
func search(l []api.Move, from, to api.Version) ([]int, api.Errno) {
	ways := map[api.Version][]int{from: nil}
	for due := []api.Version{from}; len(due) > 0; due = due[1:] {
		at := due[0]
		if at == to {
			return ways[at], api.OK
		}
		for i, m := range l {
			if _, there := ways[m.To]; there {
				continue
			}
			if is, _ := ver.Has(m.From, at); is {
				ways[m.To] = append(slices.Clone(ways[at]), i)
				due = append(due, m.To)
			}
		}
	}
	return nil, api.ErrNone
}
