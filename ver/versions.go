package ver

import (
	"cmp"
	"slices"
	"strconv"
	"strings"

	"outfitter/api"
)

const (
	maxWord   = 10 // bytes of a word of Early
	maxDigits = 9  // of a number that Parse reads
)

// Check validates a version.
func Check(v api.Version) api.Errno {
	for _, number := range []int{v.Major, v.Minor, v.Patch} {
		if number < 0 || number > api.MaxNumber {
			return api.ErrRange
		}
	}
	if v.Early != "" && !isEarly(v.Early) {
		return api.ErrForm
	}
	return api.OK
}

// Print writes a version: MAJOR.MINOR.PATCH, and -EARLY behind it.
func Print(v api.Version) (string, api.Errno) {
	if e := Check(v); e != api.OK {
		return "", e
	}
	return write(v), api.OK
}

// Parse reads what Print writes.
func Parse(text string) (api.Version, api.Errno) {
	v, ok := read(text)
	if !ok {
		return api.Version{}, api.ErrSyntax
	}
	if e := Check(v); e != api.OK {
		return api.Version{}, e
	}
	return v, api.OK
}

// Compare returns -1, 0 or 1, as a comes before b, is b, or comes behind it.
func Compare(a, b api.Version) (int, api.Errno) {
	if e := Check(a); e != api.OK {
		return 0, e
	}
	if e := Check(b); e != api.OK {
		return 0, e
	}
	return order(a, b), api.OK
}

// Next returns the version with the next number in a part (0: Major, 1: Minor, 2: Patch).
func Next(v api.Version, part int) (api.Version, api.Errno) {
	if e := Check(v); e != api.OK {
		return api.Version{}, e
	}
	next := api.Version{Major: v.Major}
	switch part {
	case 0:
		next.Major++
	case 1:
		next.Minor = v.Minor + 1
	case 2:
		next.Minor, next.Patch = v.Minor, v.Patch
		// An early version comes before the one with its numbers alone, which so is the next.
		if v.Early == "" {
			next.Patch++
		}
	default:
		return api.Version{}, api.ErrRange
	}
	if e := Check(next); e != api.OK {
		return api.Version{}, e
	}
	return next, api.OK
}

func isEarly(s string) bool {
	if len(s) > api.MaxEarly {
		return false
	}
	for _, word := range strings.Split(s, ".") {
		if !isWord(word) {
			return false
		}
	}
	return true
}

func isWord(s string) bool {
	if s == "" || len(s) > maxWord {
		return false
	}
	if all(s, isDigit) {
		return isNumber(s)
	}
	return all(s, func(c byte) bool { return isSmall(c) || isDigit(c) })
}

// write is Print for a version that has been checked.
func write(v api.Version) string {
	s := strconv.Itoa(v.Major) + "." + strconv.Itoa(v.Minor) + "." + strconv.Itoa(v.Patch)
	if v.Early != "" {
		s += "-" + v.Early
	}
	return s
}

// read takes a version apart without looking at the sizes of its numbers and the form of Early.
func read(text string) (api.Version, bool) {
	head, early, tail := strings.Cut(text, "-")
	if tail && early == "" {
		return api.Version{}, false
	}
	// A fourth word holds all that is too much, however long it is.
	words := strings.SplitN(head, ".", 4)
	if len(words) != 3 {
		return api.Version{}, false
	}
	var numbers [3]int
	for i, word := range words {
		if !isNumber(word) || len(word) > maxDigits {
			return api.Version{}, false
		}
		// Nine digits always fit, so there is no error.
		numbers[i], _ = strconv.Atoi(word)
	}
	return api.Version{Major: numbers[0], Minor: numbers[1], Patch: numbers[2], Early: early}, true
}

// order is Compare for versions that have been checked.
func order(a, b api.Version) int {
	return cmp.Or(
		cmp.Compare(a.Major, b.Major),
		cmp.Compare(a.Minor, b.Minor),
		cmp.Compare(a.Patch, b.Patch),
		orderEarly(a.Early, b.Early),
	)
}

func orderEarly(a, b string) int {
	switch {
	case a == b:
		return 0
	case a == "":
		return 1
	case b == "":
		return -1
	}
	return slices.CompareFunc(strings.Split(a, "."), strings.Split(b, "."), orderWords)
}

func orderWords(a, b string) int {
	m, n := all(a, isDigit), all(b, isDigit)
	switch {
	case m && n:
		// Without superfluous zeros the longer number is the greater one.
		return cmp.Or(cmp.Compare(len(a), len(b)), strings.Compare(a, b))
	case m:
		return -1
	case n:
		return 1
	}
	return strings.Compare(a, b)
}
