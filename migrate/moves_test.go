package migrate_test

import (
	"math/rand/v2"
	"slices"
	"strconv"
	"testing"

	"outfitter/api"
	"outfitter/migrate"
	"outfitter/ver"
)

// wrongMoves are refused.
func wrongMoves() map[string]struct {
	m    api.Move
	want api.Errno
} {
	wrong := map[string]struct {
		m    api.Move
		want api.Errno
	}{}
	add := func(what string, want api.Errno, set func(m *api.Move)) {
		m := move("^1.0.0", "2.0.0", "rename a b", "drop c")
		set(&m)
		wrong[what] = struct {
			m    api.Move
			want api.Errno
		}{m, want}
	}
	tooMany := slices.Repeat([]string{"drop a"}, api.MaxRules+1)
	add("many spans", api.ErrLarge, func(m *api.Move) { m.From.Spans = make([]api.Span, api.MaxSpans+1) })
	add("range", api.ErrForm, func(m *api.Move) { m.From.Spans[0].HasTo = false })
	add("range's order", api.ErrOrder, func(m *api.Move) { m.From.Spans[0].From.Major = 2; m.To.Early = "?" })
	add("range's version", api.ErrRange, func(m *api.Move) { m.From.Spans[0].From.Major = -1; m.To.Early = "?" })
	add("version", api.ErrForm, func(m *api.Move) { m.To.Early = "?"; m.Rules = tooMany })
	add("version's number", api.ErrRange, func(m *api.Move) { m.To.Patch = api.MaxNumber + 1; m.Rules = []string{""} })
	add("many rules", api.ErrLarge, func(m *api.Move) { m.Rules = tooMany })
	add("many rules, and a wrong one", api.ErrLarge, func(m *api.Move) { m.Rules = append([]string{"drop"}, tooMany...) })
	add("empty rule", api.ErrSyntax, func(m *api.Move) { m.Rules[1] = "" })
	add("rule", api.ErrSyntax, func(m *api.Move) { m.Rules[0] = "drop"; m.Rules[1] = "drop /" })
	add("rule's key", api.ErrName, func(m *api.Move) { m.Rules[0] = "drop /"; m.Rules[1] = "drop" })
	add("rule's value", api.ErrForm, func(m *api.Move) { m.Rules[1] = "set a \"\n\"" })
	add("rule's keys", api.ErrConflict, func(m *api.Move) { m.Rules[1] = "copy a a" })
	add("rule's loop", api.ErrLoop, func(m *api.Move) { m.Rules[1] = "prefix a a/b" })
	add("long rule", api.ErrLarge, func(m *api.Move) { m.Rules[1] = long(4001) })
	add("last rule", api.ErrSyntax, func(m *api.Move) { m.Rules = append(slices.Clone(tooMany[2:]), "x") })
	return wrong
}

func TestP156CheckMove(t *testing.T) {
	for i, m := range []api.Move{
		{},
		move("^1.0.0", "2.0.0"),
		move("none", "0.0.0-0", "drop a"),
		move("*", "1.0.0", "rename a b", `set b "1"`, `map b "1" "2"`),
		move("=1.0.0, >=2.0.0-a", "1.0.0", slices.Repeat([]string{`default a ""`}, api.MaxRules)...),
	} {
		if e := migrate.CheckMove(m); e != api.OK {
			t.Error(i, e)
		}
	}
	v := version("1.0.0")
	for what, c := range wrongMoves() {
		if e := migrate.CheckMove(c.m); e != c.want {
			t.Errorf("%s: %d, not %d", what, e, c.want)
		}
		right := move("^1.0.0", "2.0.0")
		for _, l := range [][]api.Move{{c.m}, {right, right, c.m, {To: api.Version{Major: -1}}}} {
			if w, e := migrate.Way(l, v, v); len(w) != 0 || e != c.want {
				t.Errorf("Way, %s: %v, %d, not %d", what, w, e, c.want)
			}
			if s, e := migrate.Carry(settings("a=1"), l, v, v); len(s) != 0 || e != c.want {
				t.Errorf("Carry, %s: %v, %d, not %d", what, s, e, c.want)
			}
		}
	}
}

func TestP156Way(t *testing.T) {
	l := []api.Move{
		0:  move("^1.0.0", "1.5.0"),
		1:  move("=1.5.0", "2.0.0"),
		2:  move("^1.0.0", "3.0.0"),
		3:  move("^2.0.0", "3.0.0"),
		4:  move("=3.0.0", "4.0.0"),
		5:  move(">=2.0.0 <4.0.0", "4.0.0"),
		6:  move(">=1.1.0 <1.2.0", "4.0.0"),
		7:  move("=4.0.0", "1.0.0"),
		8:  move("none", "9.0.0"),
		9:  move("=6.0.0", "6.0.0"),
		10: move(">=7.0.0 <8.0.0", "8.0.0-a"),
		11: move("=8.0.0-a", "8.0.0"),
		12: move(">=8.0.0-0 <9.0.0", "9.0.0-x"),
		13: move("*", "10.0.0-1"),
		14: move("=10.0.0-1", "11.0.0"),
	}
	for _, c := range []struct {
		from, to string
		want     []int
		e        api.Errno
	}{
		{"1.0.0", "1.0.0", nil, api.OK},
		{"99.0.0", "99.0.0", nil, api.OK},
		{"6.0.0", "6.0.0", nil, api.OK},
		{"1.0.0-a", "1.0.0-a", nil, api.OK},
		{"1.0.0", "1.5.0", []int{0}, api.OK},
		{"1.4.0", "1.5.0", []int{0}, api.OK},
		{"1.0.0", "2.0.0", []int{0, 1}, api.OK},
		{"1.5.0", "2.0.0", []int{1}, api.OK},
		{"1.0.0", "3.0.0", []int{2}, api.OK},
		{"1.0.0", "4.0.0", []int{2, 4}, api.OK},
		{"1.1.5", "4.0.0", []int{6}, api.OK},
		{"2.0.0", "4.0.0", []int{5}, api.OK},
		{"3.0.0", "4.0.0", []int{4}, api.OK},
		{"3.0.1", "4.0.0", []int{5}, api.OK},
		{"2.0.0", "1.0.0", []int{5, 7}, api.OK},
		{"3.0.0", "1.5.0", []int{4, 7, 0}, api.OK},
		{"2.5.0", "2.0.0", []int{5, 7, 0, 1}, api.OK},
		{"7.3.0", "8.0.0", []int{10, 11}, api.OK},
		// An early version is in a range only where this names one with its numbers.
		{"7.3.0", "9.0.0-x", []int{10, 12}, api.OK},
		{"7.3.0-a", "8.0.0-a", nil, api.ErrNone},
		{"7.3.0-a", "10.0.0-1", []int{13}, api.OK},
		{"8.0.0-b", "9.0.0-x", []int{12}, api.OK},
		{"8.1.0-b", "9.0.0-x", nil, api.ErrNone},
		{"1.0.0", "11.0.0", []int{13, 14}, api.OK},
		{"10.0.0-1", "11.0.0", []int{14}, api.OK},
		// The way goes by the versions themselves.
		{"1.0.0", "4.0.1", nil, api.ErrNone},
		{"1.0.0", "2.0.0-a", nil, api.ErrNone},
		{"1.0.0", "9.0.0", nil, api.ErrNone},
		{"5.0.0", "6.0.0", nil, api.ErrNone},
		{"4.0.0", "9.0.0-x", nil, api.ErrNone},
	} {
		w, e := migrate.Way(l, version(c.from), version(c.to))
		if !slices.Equal(w, c.want) || e != c.e {
			t.Errorf("Way from %s to %s: %v, %d, not %v, %d", c.from, c.to, w, e, c.want, c.e)
		}
	}
	// Of ways with as many moves it is the least, compared from the first on.
	l = []api.Move{
		0: move("=3.0.0", "9.0.0"),
		1: move("=4.0.0", "9.0.0"),
		2: move("=1.0.0", "4.0.0"),
		3: move("=1.0.0", "3.0.0"),
		4: move("=1.0.0", "4.0.0"),
		5: move("=4.0.0", "9.0.0"),
	}
	if w, e := migrate.Way(l, version("1.0.0"), version("9.0.0")); !slices.Equal(w, []int{2, 1}) || e != api.OK {
		t.Error(w, e)
	}
}

func TestP156WayErrors(t *testing.T) {
	good, bad := version("1.0.0"), api.Version{Minor: -1}
	worse := api.Version{Early: "?"}
	right := move("^1.0.0", "2.0.0", "drop a")
	wrong := move("^1.0.0", "2.0.0", "drop")
	most := slices.Repeat([]api.Move{right}, 200)
	with := func(l []api.Move, more ...api.Move) []api.Move { return append(slices.Clone(l), more...) }
	for i, c := range []struct {
		l        []api.Move
		from, to api.Version
		want     api.Errno
	}{
		{with(most, right), bad, worse, api.ErrLarge},
		{with(most, wrong), good, good, api.ErrLarge},
		{with([]api.Move{wrong}, most...), good, good, api.ErrLarge},
		{with(most[1:], wrong), bad, worse, api.ErrSyntax},
		{[]api.Move{{To: worse}, wrong}, bad, bad, api.ErrForm},
		{[]api.Move{wrong, {To: worse}}, bad, bad, api.ErrSyntax},
		{most, bad, worse, api.ErrRange},
		{most, worse, bad, api.ErrForm},
		{most, good, bad, api.ErrRange},
		{nil, good, worse, api.ErrForm},
		{nil, bad, bad, api.ErrRange},
		{nil, good, version("2.0.0"), api.ErrNone},
		{most, version("2.0.0"), good, api.ErrNone},
	} {
		if w, e := migrate.Way(c.l, c.from, c.to); len(w) != 0 || e != c.want {
			t.Errorf("Way %d: %v, %d, not %d", i, w, e, c.want)
		}
		// Way's come ahead of what is wrong with settings.
		if s, e := migrate.Carry(settings("/=1"), c.l, c.from, c.to); len(s) != 0 || e != c.want {
			t.Errorf("Carry %d: %v, %d, not %d", i, s, e, c.want)
		}
	}
	if w, e := migrate.Way(most, good, version("2.0.0")); !slices.Equal(w, []int{0}) || e != api.OK {
		t.Error(w, e)
	}
}

func TestP156Carry(t *testing.T) {
	l := []api.Move{
		0: move("=3.0.0", "4.0.0", `set last "3"`, `rename c d`),
		1: move("^1.0.0", "2.0.0", `rename a b`, `default new "1"`, `set last "1"`),
		2: move("^2.0.0", "3.0.0", `prefix b c`, `set last "2"`),
		3: move("=4.0.0", "1.0.0"),
		4: move("^5.0.0", "6.0.0", `set x "1"`, `drop x`),
		5: move("^6.0.0", "7.0.0", `set x "1"`),
		6: move("^8.0.0", "9.0.0", `prefix k kkkkkk`),
		7: move("^9.0.0", "10.0.0", `prefix kkkkkk kkkkkkk`),
	}
	for i, c := range []struct{ before, from, to, want string }{
		{"a=1", "1.0.0", "1.0.0", "a=1"},
		{"", "1.0.0", "1.0.0", ""},
		{"a=1", "1.2.3", "2.0.0", "b=1 last=1 new=1"},
		{"a=1 new=2", "1.2.3", "3.0.0", "c=1 last=2 new=2"},
		{"a=1 b/c=2", "1.0.0", "4.0.0", "c/c=2 d=1 last=3 new=1"},
		{"a=1", "2.0.0", "4.0.0", "a=1 last=3"},
		{"a=1", "4.0.0", "1.0.0", "a=1"},
		{"", "4.0.0", "2.0.0", "last=1 new=1"},
		{deep + "=1", "8.0.0", "9.0.0", "kkkkk" + deep + "=1"},
	} {
		s, e := migrate.Carry(settings(c.before), l, version(c.from), version(c.to))
		isSettings(t, i, s, e, settings(c.want), api.OK)
	}
	for i, c := range []struct {
		s        []api.Setting
		from, to string
		want     api.Errno
	}{
		{settings("b=1 a=2"), "1.0.0", "9.0.0", api.ErrNone},
		{many(api.MaxSettings + 1), "1.0.0", "9.0.0", api.ErrNone},
		// Settings are looked at even if there is no move to make, or none that has rules.
		{many(api.MaxSettings + 1), "1.0.0", "1.0.0", api.ErrLarge},
		{many(api.MaxSettings + 1), "4.0.0", "1.0.0", api.ErrLarge},
		{many(api.MaxSettings + 1), "1.0.0", "2.0.0", api.ErrLarge},
		{many(api.MaxSettings), "5.0.0", "6.0.0", api.ErrLarge},
		{many(api.MaxSettings - 1), "5.0.0", "7.0.0", api.OK},
		{many(api.MaxSettings - 1), "6.0.0", "7.0.0", api.OK},
		{many(api.MaxSettings), "6.0.0", "7.0.0", api.ErrLarge},
		{settings(deep + "=1"), "8.0.0", "10.0.0", api.ErrName},
		{settings("k/x=1"), "8.0.0", "10.0.0", api.OK},
	} {
		if s, e := migrate.Carry(c.s, l, version(c.from), version(c.to)); e != c.want || (len(s) == 0) != (e != api.OK) {
			t.Errorf("Carry %d: %.1000v, %d, not %d", i, s, e, c.want)
		}
	}
	for i, c := range wrongSettings {
		for _, to := range []string{"1.0.0", "2.0.0", "4.0.0"} {
			s, e := migrate.Carry(c.l, l, version("1.0.0"), version(to))
			isSettings(t, i, s, e, nil, c.want)
		}
	}
}

// TestP156Lists sees that the rules of each move are a list of their own, so that there can be more in all.
func TestP156Lists(t *testing.T) {
	var l []api.Move
	for i := range 200 {
		l = append(l, move("="+strconv.Itoa(i)+".0.0", strconv.Itoa(i+1)+".0.0", slices.Repeat([]string{`swap a "1" "2"`}, api.MaxRules)...))
	}
	l[77].Rules[0] = `set b "77"`
	s, e := migrate.Carry(settings("a=1"), l, version("0.0.0"), version("200.0.0"))
	isSettings(t, "all", s, e, settings("a=2 b=77"), api.OK)
	s, e = migrate.Carry(settings("a=1"), l, version("78.0.0"), version("79.0.0"))
	isSettings(t, "one", s, e, settings("a=1"), api.OK)
}

// slowWay looks, by the words of P156, at all lists of so many moves, in order, then at those with more.
func slowWay(l []api.Move, from, to api.Version, most int) ([]int, bool) {
	var next func(at api.Version, way []int, left int) ([]int, bool)
	next = func(at api.Version, way []int, left int) ([]int, bool) {
		if left == 0 {
			order, _ := ver.Compare(at, to)
			return way, order == 0
		}
		for i, m := range l {
			if is, _ := ver.Has(m.From, at); !is {
				continue
			}
			if all, found := next(m.To, append(slices.Clone(way), i), left-1); found {
				return all, true
			}
		}
		return nil, false
	}
	for n := range most + 1 {
		if way, found := next(from, nil, n); found {
			return way, true
		}
	}
	return nil, false
}

// guessMoves are some by chance, between few versions.
func guessMoves(rnd *rand.Rand) []api.Move {
	ranges := []string{"none", "*", "=1.0.0", "=2.0.0", "=3.0.0", "=4.0.0-a", "=5.0.0", "^1.0.0", ">=2.0.0 <4.0.0", "<3.0.0", ">=4.0.0-a", "=1.0.0, =3.0.0"}
	versions := []string{"1.0.0", "2.0.0", "3.0.0", "4.0.0-a", "4.0.0", "5.0.0"}
	var l []api.Move
	for range 2 + rnd.IntN(7) {
		from := ranges[rnd.IntN(len(ranges))]
		if rnd.IntN(2) == 0 {
			from = "=" + versions[rnd.IntN(len(versions))]
		}
		var texts []string
		for range rnd.IntN(3) {
			text, _ := migrate.PrintRule(guessRule(rnd, allKinds...))
			texts = append(texts, text)
		}
		l = append(l, move(from, versions[rnd.IntN(len(versions))], texts...))
	}
	return l
}

// TestP262Moves holds Way against a slow way by the words of P156, and Carry against the moves one by one.
func TestP262Moves(t *testing.T) {
	versions := []api.Version{version("1.0.0"), version("2.0.0"), version("4.0.0-a"), version("4.0.0"), version("5.0.0"), version("1.5.0")}
	rnd := rand.New(rand.NewPCG(9, 10))
	seen := map[int]int{}
	for range 10000 {
		l := guessMoves(rnd)
		from, to := versions[rnd.IntN(len(versions))], versions[rnd.IntN(len(versions))]
		// No way of the fewest moves comes to a version twice, and there are 6 of them.
		want, found := slowWay(l, from, to, 6)
		w, e := migrate.Way(l, from, to)
		if !slices.Equal(w, want) || found != (e == api.OK) || !found && e != api.ErrNone {
			t.Fatal(l, from, to, w, e, "not", want)
		}
		before := guessSettings(rnd)
		s, e := migrate.Carry(before, l, from, to)
		if !found {
			isSettings(t, l, s, e, nil, api.ErrNone)
			seen[-1]++
			continue
		}
		seen[len(w)]++
		one, at := before, from
		for _, i := range w {
			single, f := migrate.Way(l[i:i+1], at, l[i].To)
			if f != api.OK || at != l[i].To && len(single) != 1 {
				t.Fatal(l, i, f)
			}
			one, f = migrate.Run(one, rules(l[i].Rules...))
			if f != api.OK {
				t.Fatal(l, i, f)
			}
			at = l[i].To
		}
		if !slices.Equal(s, one) || e != api.OK {
			t.Fatal(l, from, to, s, e, "not", one)
		}
	}
	for n, most := range map[int]int{-1: 1000, 0: 500, 1: 1000, 2: 300, 3: 100} {
		if seen[n] < most {
			t.Error("too few are so:", n, seen)
		}
	}
}
