package delta_test

import (
	"math/rand/v2"
	"slices"
	"strconv"
	"strings"
	"testing"

	"outfitter/api"
	"outfitter/delta"
)

// text writes letters as lines; a letter that is to have no line feed has an exclamation mark behind it.
func text(letters string) string {
	var b strings.Builder
	for _, c := range letters {
		if c == '!' {
			continue
		}
		b.WriteRune(c)
		b.WriteByte('\n')
	}
	if strings.HasSuffix(letters, "!") {
		return strings.TrimSuffix(b.String(), "\n")
	}
	return b.String()
}

func TestP100Lines(t *testing.T) {
	for _, c := range []struct {
		a, b string
		want [][2]int
	}{
		{"", "", nil},
		{"", "a", nil},
		{"a", "", nil},
		{"a", "b", nil},
		{"a", "a", [][2]int{{0, 0}}},
		{"abc", "abc", [][2]int{{0, 0}, {1, 1}, {2, 2}}},
		{"abc", "axc", [][2]int{{0, 0}, {2, 2}}},
		{"abc", "xbx", [][2]int{{1, 1}}},
		{"abcd", "acbd", [][2]int{{0, 0}, {1, 2}, {3, 3}}},
		{"abc", "bcxa", [][2]int{{1, 0}, {2, 1}}},
		// Of as many the least places in a, and then in b.
		{"ab", "ba", [][2]int{{0, 1}}},
		{"aab", "ab", [][2]int{{0, 0}, {2, 1}}},
		{"aa", "a", [][2]int{{0, 0}}},
		{"a", "aa", [][2]int{{0, 0}}},
		{"aba", "a", [][2]int{{0, 0}}},
		{"ab", "axaxb", [][2]int{{0, 0}, {1, 4}}},
		{"ab", "bxaxbxa", [][2]int{{0, 2}, {1, 4}}},
		{"abcab", "cab", [][2]int{{2, 0}, {3, 1}, {4, 2}}},
		{"abcdab", "cdab", [][2]int{{2, 0}, {3, 1}, {4, 2}, {5, 3}}},
		{"abxab", "ab", [][2]int{{0, 0}, {1, 1}}},
		{"abab", "bba", [][2]int{{1, 0}, {2, 2}}},
		{"abcd", "badc", [][2]int{{0, 1}, {2, 3}}},
		{"xayb", "ybxa", [][2]int{{0, 2}, {1, 3}}},
		// A line feed counts.
		{"a!", "a", nil},
		{"a!", "a!", [][2]int{{0, 0}}},
		{"ab!", "ba!", nil},
		{"ab!", "ab", [][2]int{{0, 0}}},
		{"ab!", "xab!", [][2]int{{0, 1}, {1, 2}}},
		{"aba!", "ba", [][2]int{{0, 1}}},
	} {
		got, e := delta.Lines(text(c.a), text(c.b))
		if !slices.Equal(got, c.want) || e != api.OK {
			t.Errorf("%q, %q: %v, %d, not %v", c.a, c.b, got, e, c.want)
		}
	}
	for _, c := range []struct {
		a, b string
		want [][2]int
	}{
		{"\n", "\n", [][2]int{{0, 0}}},
		{"\n\n\n", "\n\n", [][2]int{{0, 0}, {1, 1}}},
		{"a", "\na", [][2]int{{0, 1}}},
		{"a\n\nb\n", "a\n\n", [][2]int{{0, 0}, {1, 1}}},
		{"a\r\nb\r", "a\nb\r", [][2]int{{1, 1}}},
		{"\x00\n\xff\n", "\xff\n\x00\n", [][2]int{{0, 1}}},
		{"ab\nc\n", "a\nbc\n", nil},
		{"a\nb\na\n", "a\nc\na", [][2]int{{0, 0}}},
	} {
		got, e := delta.Lines(c.a, c.b)
		if !slices.Equal(got, c.want) || e != api.OK {
			t.Errorf("%q, %q: %v, %d, not %v", c.a, c.b, got, e, c.want)
		}
	}
}

// allPairs calls f with all lists of pairs that rise in both.
func allPairs(a, b string, f func(l [][2]int)) {
	var on func(i, j int, l [][2]int)
	on = func(i, j int, l [][2]int) {
		f(slices.Clone(l))
		for x := i; x < len(a); x++ {
			for y := j; y < len(b); y++ {
				if a[x] == b[y] {
					on(x+1, y+1, append(l, [2]int{x, y}))
				}
			}
		}
	}
	on(0, 0, nil)
}

func column(l [][2]int, i int) []int {
	var r []int
	for _, pair := range l {
		r = append(r, pair[i])
	}
	return r
}

func TestP100LinesChance(t *testing.T) {
	rnd := rand.New(rand.NewPCG(13, 14))
	for range 5000 {
		letters := 1 + rnd.IntN(4)
		a, b := guess(rnd, rnd.IntN(7), letters), guess(rnd, rnd.IntN(7), letters)
		var want [][2]int
		allPairs(a, b, func(l [][2]int) {
			switch {
			case len(l) < len(want):
				return
			case len(l) == len(want):
				c := slices.Compare(column(l, 0), column(want, 0))
				if c > 0 || c == 0 && slices.Compare(column(l, 1), column(want, 1)) >= 0 {
					return
				}
			}
			want = l
		})
		if got, e := delta.Lines(text(a), text(b)); !slices.Equal(got, want) || e != api.OK {
			t.Fatalf("%q, %q: %v, %d, not %v", a, b, got, e, want)
		}
	}
}

func TestP100LinesErrors(t *testing.T) {
	most := strings.Repeat("\n", api.MaxLines)
	long := strings.Repeat("a", api.MaxData)
	for i, c := range []struct {
		a, b string
		want api.Errno
	}{
		{most, "", api.OK},
		{"", most, api.OK},
		{most, most, api.OK},
		{most + "\n", "", api.ErrLarge},
		{"", most + "\n", api.ErrLarge},
		{most + "a", "", api.ErrLarge},
		{"", most + "a", api.ErrLarge},
		{most[1:] + "a", most[1:] + "a", api.OK},
		{long, "", api.OK},
		{"", long, api.OK},
		{long, long, api.OK},
		{long + "\n", "", api.ErrLarge},
		{"", long + "\n", api.ErrLarge},
		{long[1:] + "\n", long[1:] + "\n", api.OK},
	} {
		got, e := delta.Lines(c.a, c.b)
		if e != c.want || e != api.OK && len(got) != 0 {
			t.Errorf("%d: %v, %d, not %d", i, got, e, c.want)
		}
		if c.want == api.OK {
			continue
		}
		for _, l := range [][3]string{{c.a, c.b, ""}, {c.b, c.a, ""}, {c.a, "", c.b}, {"", c.a, c.b}} {
			if s, n, e := delta.Merge(l[0], l[1], l[2]); s != "" || n != 0 || e != c.want {
				t.Errorf("%d: %.100q, %d, %d, not %d", i, s, n, e, c.want)
			}
		}
	}
}

const (
	ours   = "<<<<<<<\n"
	middle = "=======\n"
	theirs = ">>>>>>>\n"
)

func TestP100Merge(t *testing.T) {
	for _, c := range []struct {
		base, a, b, want string
		clashes          int
	}{
		{"", "", "", "", 0},
		{"abc", "abc", "abc", "a\nb\nc\n", 0},
		{"abc", "aBc", "abc", "a\nB\nc\n", 0},
		{"abc", "abc", "aBc", "a\nB\nc\n", 0},
		{"abc", "aBc", "aBc", "a\nB\nc\n", 0},
		{"abc", "aBc", "abcd", "a\nB\nc\nd\n", 0},
		{"abc", "abcd", "aBc", "a\nB\nc\nd\n", 0},
		{"abc", "ac", "abc", "a\nc\n", 0},
		{"abc", "ac", "ac", "a\nc\n", 0},
		{"abc", "xabc", "abcy", "x\na\nb\nc\ny\n", 0},
		{"abcde", "bcde", "abcd", "b\nc\nd\n", 0},
		{"abcde", "aBcde", "abcDe", "a\nB\nc\nD\ne\n", 0},
		{"abc", "", "abc", "", 0},
		{"abc", "abc", "", "", 0},
		{"", "a", "", "a\n", 0},
		{"", "", "b", "b\n", 0},
		{"", "a", "a", "a\n", 0},
		{"abc", "xyz", "xyz", "x\ny\nz\n", 0},
		// Clashes: in the middle, first, last, alone, and several.
		{"abc", "axc", "ayc", "a\n" + ours + "x\n" + middle + "y\n" + theirs + "c\n", 1},
		{"abc", "xbc", "ybc", ours + "x\n" + middle + "y\n" + theirs + "b\nc\n", 1},
		{"abc", "abx", "aby", "a\nb\n" + ours + "x\n" + middle + "y\n" + theirs, 1},
		{"", "x", "y", ours + "x\n" + middle + "y\n" + theirs, 1},
		{"a", "x", "", ours + "x\n" + middle + theirs, 1},
		{"a", "", "y", ours + middle + "y\n" + theirs, 1},
		{"ab", "xa", "yb", ours + "x\na\n" + middle + "y\nb\n" + theirs, 1},
		{"abcde", "xbcde", "ybcdz", ours + "x\n" + middle + "y\n" + theirs + "b\nc\nd\nz\n", 1},
		{"abcde", "xbcdz", "ybcdw", ours + "x\n" + middle + "y\n" + theirs + "b\nc\nd\n" + ours + "z\n" + middle + "w\n" + theirs, 2},
		{"abcd", "aXcd", "abYd", "a\n" + ours + "X\nc\n" + middle + "b\nY\n" + theirs + "d\n", 1},
		{"ab", "axb", "ayb", "a\n" + ours + "x\n" + middle + "y\n" + theirs + "b\n", 1},
		{"ab", "axxb", "axb", "a\n" + ours + "x\nx\n" + middle + "x\n" + theirs + "b\n", 1},
		// Only what both keep is kept.
		{"abcd", "bd", "acd", ours + "b\n" + middle + "a\nc\n" + theirs + "d\n", 1},
		{"abc", "bca", "abc", "b\nc\na\n", 0},
		{"ab", "ba", "ab", "b\na\n", 0},
		// Parts without a line feed get one only in a clash.
		{"a!", "a!", "a!", "a", 0},
		{"ab", "ab!", "ab", "a\nb", 0},
		{"ab", "ab", "ab!", "a\nb", 0},
		{"ab!", "ab", "ab!", "a\nb\n", 0},
		{"ab!", "aB!", "ab!", "a\nB", 0},
		{"ab", "ax", "ay!", "a\n" + ours + "x\n" + middle + "y\n" + theirs, 1},
		{"ab", "ax!", "ay", "a\n" + ours + "x\n" + middle + "y\n" + theirs, 1},
		{"ab", "ax!", "ay!", "a\n" + ours + "x\n" + middle + "y\n" + theirs, 1},
		{"ab", "ab!", "ay", "a\n" + ours + "b\n" + middle + "y\n" + theirs, 1},
		{"ab", "ax!", "ax", "a\n" + ours + "x\n" + middle + "x\n" + theirs, 1},
		{"ab!", "ab", "abc", "a\n" + ours + "b\n" + middle + "b\nc\n" + theirs, 1},
	} {
		got, n, e := delta.Merge(text(c.base), text(c.a), text(c.b))
		if got != c.want || n != c.clashes || e != api.OK {
			t.Errorf("%q, %q, %q: %q, %d, %d, not %q, %d", c.base, c.a, c.b, got, n, e, c.want, c.clashes)
		}
	}
}

// merged puts texts of lines together, word by word as P100 has it, with a letter for a line.
func merged(base, a, b string) (string, int) {
	inA, inB := map[int]int{}, map[int]int{}
	first, _ := delta.Lines(text(base), text(a))
	for _, pair := range first {
		inA[pair[0]] = pair[1]
	}
	second, _ := delta.Lines(text(base), text(b))
	for _, pair := range second {
		inB[pair[0]] = pair[1]
	}
	result, clashes := "", 0
	part, x, y := "", 0, 0
	for i := range len(base) + 1 {
		toA, toB := len(a), len(b)
		if i < len(base) {
			var isA, isB bool
			toA, isA = inA[i]
			toB, isB = inB[i]
			if !isA || !isB {
				part += base[i : i+1]
				continue
			}
		}
		partA, partB := a[x:toA], b[y:toB]
		switch {
		case partA == part:
			result += partB
		case partB == part || partB == partA:
			result += partA
		default:
			result += "<" + partA + "=" + partB + ">"
			clashes++
		}
		if i < len(base) {
			result += base[i : i+1]
		}
		part, x, y = "", toA+1, toB+1
	}
	return result, clashes
}

func TestP100MergeChance(t *testing.T) {
	rnd := rand.New(rand.NewPCG(15, 16))
	many := [3]int{}
	for range 5000 {
		letters := 2 + rnd.IntN(5)
		base := guess(rnd, rnd.IntN(12), letters)
		a, b := changed(rnd, base, letters), changed(rnd, base, letters)
		result, clashes := merged(base, a, b)
		want := strings.NewReplacer("<\n", ours, "=\n", middle, ">\n", theirs).Replace(text(result))
		got, n, e := delta.Merge(text(base), text(a), text(b))
		if got != want || n != clashes || e != api.OK {
			t.Fatalf("%q, %q, %q: %q, %d, %d, not %q, %d", base, a, b, got, n, e, want, clashes)
		}
		many[min(n, 2)]++
		for _, c := range []struct{ a, b, want string }{{base, b, b}, {a, base, a}, {a, a, a}} {
			if got, n, e := delta.Merge(text(base), text(c.a), text(c.b)); got != text(c.want) || n != 0 || e != api.OK {
				t.Fatalf("%q, %q, %q: %q, %d, %d", base, c.a, c.b, got, n, e)
			}
		}
	}
	if min(many[0], many[1], many[2]) < 100 {
		t.Error("too little is tried:", many)
	}
}

func TestP100MergeLarge(t *testing.T) {
	const frame = len(ours) + len(middle) + len(theirs)
	half := strings.Repeat("a", api.MaxData/2)
	for _, c := range []struct {
		a, b string
		want int
	}{
		{half + "\n", half[frame+2:] + "\n", api.MaxData},
		{half + "\n", half[frame+1:] + "\n", 0},
		// The line feed that a part gets counts.
		{half, half[frame+2:], api.MaxData},
		{half, half[frame+1:], 0},
		{half + half, "", api.MaxData},
		{half + half, "b", 0},
		{half + half[1:], half + half[1:], api.MaxData - 1},
	} {
		s, n, e := delta.Merge("", c.a, c.b)
		isLarge := c.want == 0
		if len(s) != c.want || isLarge != (e == api.ErrLarge) || !isLarge && e != api.OK || isLarge && n != 0 {
			t.Errorf("%d and %d bytes: %d, %d, %d", len(c.a), len(c.b), len(s), n, e)
		}
	}
	var base, a, b strings.Builder
	for i := range api.MaxLines / 2 {
		line := strconv.Itoa(i) + "\n"
		base.WriteString(line + line + line)
		a.WriteString(line + "a" + line)
		b.WriteString(line + "b" + line)
	}
	if s, n, e := delta.Merge(base.String(), a.String(), b.String()); s != "" || n != 0 || e != api.ErrLarge {
		t.Error(len(s), n, e)
	}
	s, n, e := delta.Merge(strings.ReplaceAll(a.String(), "a", "x"), a.String(), b.String())
	if strings.Count(s, ours) != api.MaxLines/2 || n != api.MaxLines/2 || e != api.OK {
		t.Error(len(s), n, e)
	}
}
