package delta

import (
	"slices"
	"strings"

	"outfitter/api"
)

// Lines returns which lines of two texts are the same.
func Lines(a, b string) ([][2]int, api.Errno) {
	if !fits(a) || !fits(b) {
		return nil, api.ErrLarge
	}
	x, y := numbers(split(a), split(b))
	most := matches(x, y)
	var l [][2]int
	for i, j := 0, 0; most[i][j] > 0; i++ {
		// The first such line of b leaves the most of b to what follows, so that no other one has to be looked at.
		at := slices.Index(y[j:], x[i])
		if at >= 0 && most[i+1][j+at+1]+1 == most[i][j] {
			l = append(l, [2]int{i, j + at})
			j += at + 1
		}
	}
	return l, api.OK
}

// fits reports whether a text has neither too many bytes nor too many lines.
func fits(text string) bool {
	return len(text) <= api.MaxData && len(split(text)) <= api.MaxLines
}

// split returns the lines of a text, with their line feeds.
func split(text string) []string {
	l := strings.SplitAfter(text, "\n")
	if l[len(l)-1] == "" {
		l = l[:len(l)-1]
	}
	return l
}

// numbers gives the same number to lines that are the same.
func numbers(a, b []string) ([]int, []int) {
	known := map[string]int{}
	of := func(l []string) []int {
		r := make([]int, len(l))
		for i, line := range l {
			n, has := known[line]
			if !has {
				n = len(known)
				known[line] = n
			}
			r[i] = n
		}
		return r
	}
	x := of(a)
	return x, of(b)
}

// matches returns how many pairs there can be from the places i of x and j of y on.
func matches(x, y []int) [][]int {
	most := make([][]int, len(x)+1)
	most[len(x)] = make([]int, len(y)+1)
	for i := len(x) - 1; i >= 0; i-- {
		row, below := make([]int, len(y)+1), most[i+1]
		for j := len(y) - 1; j >= 0; j-- {
			row[j] = max(below[j], row[j+1])
			if x[i] == y[j] {
				row[j] = below[j+1] + 1
			}
		}
		most[i] = row
	}
	return most
}

// Merge puts together what two sides have made of a base, and counts the clashes.
func Merge(base, a, b string) (string, int, api.Errno) {
	first, e := Lines(base, a)
	if e != api.OK {
		return "", 0, e
	}
	second, e := Lines(base, b)
	if e != api.OK {
		return "", 0, e
	}
	text, clashes := merge(split(base), split(a), split(b), kept(first, second))
	if len(text) > api.MaxData {
		return "", 0, api.ErrLarge
	}
	return text, clashes, api.OK
}

// place is where a line stands in the base and on both sides.
type place struct{ base, a, b int }

// kept returns the places of the lines of the base that both sides have.
func kept(first, second [][2]int) []place {
	inB := map[int]int{}
	for _, pair := range second {
		inB[pair[0]] = pair[1]
	}
	var l []place
	for _, pair := range first {
		b, has := inB[pair[0]]
		if has {
			l = append(l, place{pair[0], pair[1], b})
		}
	}
	return l
}

func merge(base, a, b []string, same []place) (string, int) {
	var text strings.Builder
	clashes := 0
	from := place{} // behind the last line that is kept
	settle := func(to place) {
		part, clash := settled(strings.Join(base[from.base:to.base], ""), strings.Join(a[from.a:to.a], ""), strings.Join(b[from.b:to.b], ""))
		text.WriteString(part)
		if clash {
			clashes++
		}
		from = place{to.base + 1, to.a + 1, to.b + 1}
	}
	for _, p := range same {
		settle(p)
		text.WriteString(base[p.base])
	}
	settle(place{len(base), len(a), len(b)})
	return text.String(), clashes
}

// settled returns what becomes of a part of the base that two sides have made these of, and whether they clash.
func settled(base, a, b string) (string, bool) {
	switch {
	case a == base:
		return b, false
	case b == base || b == a:
		return a, false
	}
	return "<<<<<<<\n" + ended(a) + "=======\n" + ended(b) + ">>>>>>>\n", true
}

// ended returns a part with a line feed at its end.
func ended(part string) string {
	if part == "" || strings.HasSuffix(part, "\n") {
		return part
	}
	return part + "\n"
}
