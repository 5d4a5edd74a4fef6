package choose_test

import (
	"math/rand/v2"
	"slices"
	"strconv"
	"strings"

	"outfitter/api"
	"outfitter/choose"
	"outfitter/pack"
	"outfitter/ver"
)

// This file has what P71 to P73 say, word by word: all picks that there can be are tried.

// isRight reports whether picks are right.
func isRight(w api.World, l []api.Want, picks []api.Pick) bool {
	var packages []api.Package
	var chosen [][]string
	for i, p := range picks {
		at := slices.IndexFunc(w.Packages, func(q api.Package) bool { return q.Name == p.Name && q.Version == p.Version })
		if at < 0 || i > 0 && p.Name <= picks[i-1].Name {
			return false
		}
		packages = append(packages, w.Packages[at])
		chosen = append(chosen, p.Components)
	}
	versionOf := func(name string) (api.Version, bool) {
		for _, p := range picks {
			if p.Name == name {
				return p.Version, true
			}
		}
		return api.Version{}, false
	}
	isIn := func(name string, r api.Range) bool {
		v, there := versionOf(name)
		in, _ := ver.Has(r, v)
		return there && in
	}
	reached := map[string]bool{}
	for _, want := range l {
		if !isIn(want.Name, want.Range) {
			return false
		}
		reached[want.Name] = true
	}
	for range packages {
		for _, p := range packages {
			for _, need := range p.Needs {
				if !isIn(need.Name, need.Range) {
					return false
				}
				reached[need.Name] = reached[need.Name] || reached[p.Name]
			}
		}
	}
	for i, p := range packages {
		for _, bar := range p.Bars {
			if isIn(bar.Name, bar.Range) {
				return false
			}
		}
		if parts, can := partsOf(w, l, p); !reached[p.Name] || !can || !slices.Equal(parts, chosen[i]) {
			return false
		}
	}
	clashes, e := pack.Clashes(packages, chosen)
	return len(clashes) == 0 && e == api.OK
}

// partsOf returns the components that a package has if it is picked, and whether it can be.
func partsOf(w api.World, l []api.Want, p api.Package) ([]string, bool) {
	allowed, _ := pack.Allowed(p, w.Facts, w.Settings)
	chosen, _ := pack.Defaults(p, w.Facts, w.Settings)
	for _, in := range w.Installed {
		if in.Name == p.Name {
			chosen = slices.DeleteFunc(slices.Clone(in.Components), func(name string) bool { return !slices.Contains(allowed, name) })
		}
	}
	for _, want := range l {
		for _, name := range want.Components {
			if want.Name == p.Name && !slices.Contains(chosen, name) {
				chosen = append(chosen, name)
			}
		}
	}
	parts, e := pack.Closed(p, chosen)
	isDenied := func(name string) bool { return !slices.Contains(allowed, name) }
	return parts, e == api.OK && !slices.ContainsFunc(parts, isDenied)
}

// allRight returns all right picks.
func allRight(w api.World, l []api.Want) [][]api.Pick {
	lists := [][]api.Pick{nil}
	for _, name := range namesOf(w) {
		for _, before := range lists {
			for _, p := range w.Packages {
				if parts, can := partsOf(w, l, p); p.Name == name && can {
					lists = append(lists, append(slices.Clone(before), api.Pick{Name: name, Version: p.Version, Components: parts}))
				}
			}
		}
	}
	return slices.DeleteFunc(lists, func(picks []api.Pick) bool { return !isRight(w, l, picks) })
}

// namesOf returns the names of the packages of a world, each once.
func namesOf(w api.World) []string {
	var names []string
	for _, p := range w.Packages {
		names = append(names, p.Name)
	}
	return slices.Compact(names)
}

// rankOf is the rank of right picks.
func rankOf(w api.World, l []api.Want, mode int, picks []api.Pick) []int {
	var names []string
	for _, want := range l {
		if !slices.Contains(names, want.Name) {
			names = append(names, want.Name)
		}
	}
	for _, name := range namesOf(w) {
		if !slices.Contains(names, name) {
			names = append(names, name)
		}
	}
	var rank []int
	for _, name := range names {
		rank = append(rank, numberOf(w, mode, name, picks))
	}
	return rank
}

func numberOf(w api.World, mode int, name string, picks []api.Pick) int {
	installed := slices.IndexFunc(w.Installed, func(in api.Install) bool { return in.Name == name })
	isKept := mode == api.ModeKeep && installed >= 0
	at := slices.IndexFunc(picks, func(p api.Pick) bool { return p.Name == name })
	switch {
	case at < 0 && isKept:
		return 1
	case at < 0:
		return 0
	case isKept && picks[at].Version == w.Installed[installed].Version:
		return 0
	}
	better := 0
	for _, p := range w.Packages {
		order, _ := ver.Compare(p.Version, picks[at].Version)
		switch {
		case p.Name != name || isKept && p.Version == w.Installed[installed].Version:
		case mode == api.ModeOldest && order < 0, mode != api.ModeOldest && order > 0:
			better++
		}
	}
	if isKept {
		return 2 + better
	}
	return 1 + better
}

// parts returns all parts of wants, by their numbers.
func parts(many int) [][]int {
	l := [][]int{nil}
	for i := range many {
		for _, part := range l {
			l = append(l, append(slices.Clone(part), i))
		}
	}
	return l
}

// some returns the wants with some numbers.
func some(l []api.Want, numbers []int) []api.Want {
	var part []api.Want
	for _, i := range numbers {
		part = append(part, l[i])
	}
	return part
}

// explain is the part that Explain tells.
func explain(w api.World, l []api.Want) []int {
	var best []int
	for _, part := range parts(len(l)) {
		isLess := best == nil || len(part) < len(best) || len(part) == len(best) && slices.Compare(part, best) < 0
		if isLess && len(allRight(w, some(l, part))) == 0 {
			best = part
		}
	}
	return best
}

// guessWorld makes a world by chance, in which nothing is installed.
func guessWorld(rnd *rand.Rand) api.World {
	w := api.World{Facts: pairs("os=" + guess(rnd, "x y"))}
	names := []string{"a", "b", "c", "d"}[:1+max(rnd.IntN(4), rnd.IntN(4))]
	for _, name := range names {
		for _, v := range []string{"1.0.0", "2.0.0-a", "2.0.0"} {
			if rnd.IntN(3) > 0 {
				w.Packages = append(w.Packages, guessPackage(rnd, name, v))
			}
		}
	}
	return w
}

func guessPackage(rnd *rand.Rand, name, v string) api.Package {
	text := "package " + name + " " + v + ` ""` + "\n"
	for range rnd.IntN(3) {
		text += "need " + guess(rnd, "a a b b b c c c d d d e") + " " + guessRange(rnd) + "\n"
	}
	if rnd.IntN(3) == 0 {
		text += "bar " + guess(rnd, "a b c d e") + " " + guessRange(rnd) + "\n"
	}
	for i, part := range []string{"core", "words", "server"}[:1+rnd.IntN(3)] {
		text += `component ` + part + ` ""` + guess(rnd, "| default| always| default") + "\n"
		text += guess(rnd, `||||||when fact os = "x"`+"\n")
		if i > 0 && rnd.IntN(2) == 0 {
			text += "needs core\n"
		}
		switch rnd.IntN(8) {
		case 0:
			text += program("bin/"+guess(rnd, name+"|x|y")) + "\n"
		case 1:
			text += "file shared bin/" + guess(rnd, name+"|x|y") + " 0000000000000000 0" + guess(rnd, "| runs") + "\n"
		case 2:
			text += "set size/" + guess(rnd, name+"|x") + ` "` + strconv.Itoa(rnd.IntN(2)) + "\"\n"
		}
	}
	p, _, e := pack.Parse(text)
	if e != api.OK {
		return guessPackage(rnd, name, v)
	}
	return p
}

func guessRange(rnd *rand.Rand) string { return guess(rnd, "* * <2.0.0 ^1.0.0 >=2.0.0 >=2.0.0-a") }

// guess is one of some words, with blanks or | between.
func guess(rnd *rand.Rand, words string) string {
	l := strings.Fields(words)
	if strings.Contains(words, "|") {
		l = strings.Split(words, "|")
	}
	return l[rnd.IntN(len(l))]
}

func guessWants(rnd *rand.Rand) []api.Want {
	var l []api.Want
	for range 1 + rnd.IntN(3)&rnd.IntN(4) {
		text := guess(rnd, "a a a a b b b c c d d e") + " " + guessRange(rnd)
		if rnd.IntN(4) == 0 {
			text += " " + guess(rnd, "core words server")
		}
		l = append(l, wants(text)...)
	}
	return l
}

// install has some packages of a world installed, by chance.
func install(rnd *rand.Rand, w api.World) api.World {
	for i, p := range w.Packages {
		if rnd.IntN(3) > 0 || i > 0 && len(w.Installed) > 0 && w.Installed[len(w.Installed)-1].Name == p.Name {
			continue
		}
		in := api.Install{Name: p.Name, Version: p.Version, Wanted: rnd.IntN(2) == 0}
		for _, c := range p.Components {
			if rnd.IntN(2) == 0 {
				in.Components = append(in.Components, c.Name)
			}
		}
		w.Installed = append(w.Installed, in)
	}
	return w
}

// choosePicks is Choose, with its picks as a text.
func choosePicks(w api.World, l []api.Want, mode int) (string, api.Errno) {
	got, e := choose.Choose(w, l, mode)
	return show(got), e
}
