package choose

import (
	"iter"
	"math/bits"

	"outfitter/api"
)

// set is some numbers below 64, a bit for each one.
type set uint64

func only(number int) set { return 1 << number }

// below is all numbers from 0 to many, without this one.
func below(many int) set { return only(many) - 1 }

func (s set) has(number int) bool { return s&only(number) != 0 }

// each goes through the numbers, rising.
func (s set) each() iter.Seq[int] {
	return func(yield func(int) bool) {
		for rest := s; rest != 0; rest &= rest - 1 {
			if !yield(bits.TrailingZeros64(uint64(rest))) {
				return
			}
		}
	}
}

// partsOf returns the places of components of a package, and whether it has all of them.
func partsOf(p api.Package, names []string) (set, bool) {
	var parts set
	all := true
	for _, name := range names {
		if i := placeOf(p, name); i >= 0 {
			parts |= only(i)
		} else {
			all = false
		}
	}
	return parts, all
}

// namesOf returns the names of components of a package, in its order.
func namesOf(p api.Package, parts set) []string {
	var names []string
	for i := range parts.each() {
		names = append(names, p.Components[i].Name)
	}
	return names
}
