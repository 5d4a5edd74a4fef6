package migrate_test

import (
	"math/rand/v2"
	"slices"
	"strings"
	"testing"

	"outfitter/api"
	"outfitter/disk"
	"outfitter/migrate"
)

func TestP153Run(t *testing.T) {
	for i, c := range []struct{ before, rule, want string }{
		{"a=1 b=2", `rename a c`, "b=2 c=1"},
		{"a=1 b=2", `rename b a`, "a=2"},
		{"a=1 b=2", `rename a b`, "b=1"},
		{"a=1 b=2", `rename c a`, "a=1 b=2"},
		{"b=2", `rename a b`, "b=2"},
		{"a= b=2", `rename a b`, "b="},
		{"a=1 a/b=2", `rename a c`, "a/b=2 c=1"},
		{"a/b=2", `rename a c`, "a/b=2"},
		{"a=1 a/b=2", `rename a/b a`, "a=2"},
		{"a=1", `rename a a/b`, "a/b=1"},
		{"", `rename a b`, ""},

		{"a=1 a/b=2 a/b/c=3 b=4", `prefix a c`, "b=4 c=1 c/b=2 c/b/c=3"},
		{"a=1 a/b=2 a/b/c=3", `prefix a/b c`, "a=1 c=2 c/c=3"},
		{"a=1 a/b=2", `prefix a z/y/x`, "z/y/x=1 z/y/x/b=2"},
		{"a/b=2 aa=1 a-b=3 a.b/c=4 A/b=5", `prefix a c`, "A/b=5 a-b=3 a.b/c=4 aa=1 c/b=2"},
		{"b/a=1 b/a/c=2", `prefix a c`, "b/a=1 b/a/c=2"},
		{"a=1", `prefix a/b c`, "a=1"},
		{"a/a/a=1", `prefix a b`, "b/a/a=1"},
		// What is not changed gives way, where it has the same key.
		{"a=1 a/x=2 b=3 b/x=4 b/y=5", `prefix a b`, "b=1 b/x=2 b/y=5"},
		{"a/x=2 b=3 b/x=4", `prefix a b`, "b=3 b/x=2"},
		{"b=1 b/x=2 a=3 a/x=4", `prefix b a`, "a=1 a/x=2"},
		{"b=3 b/x=4", `prefix a b`, "b=3 b/x=4"},
		{"a/c=1 a/b/c=2 c=5", `prefix a/b a/c`, "a/c=1 a/c/c=2 c=5"},
		{"", `prefix a b`, ""},

		{"a=1 b=2", `copy a b`, "a=1 b=1"},
		{"a=1", `copy a b/c`, "a=1 b/c=1"},
		{"a=", `copy a b`, "a= b="},
		{"b=2", `copy a b`, "b=2"},
		{"a/b=1", `copy a c`, "a/b=1"},

		{"a=1", `set a "2"`, "a=2"},
		{"a=1", `set b "2"`, "a=1 b=2"},
		{"a=1", `set a ""`, "a="},
		{"", `set a ""`, "a="},

		{"a=1", `default a "2"`, "a=1"},
		{"a=", `default a "2"`, "a="},
		{"a=1", `default b "2"`, "a=1 b=2"},
		{"", `default a ""`, "a="},

		{"a=1 a/b=2", `drop a`, "a/b=2"},
		{"a=1 a/b=2", `drop a/b`, "a=1"},
		{"a/b=2", `drop a`, "a/b=2"},
		{"a=", `drop a`, ""},

		{"a=1", `map a "1" "2"`, "a=2"},
		{"a=2", `map a "1" "2"`, "a=2"},
		{"a=3", `map a "1" "2"`, "a=3"},
		{"a=", `map a "" "2"`, "a=2"},
		{"a=1", `map a "1" ""`, "a="},
		{"b=", `map a "" "2"`, "b="},
		{"b=", `map a "2" ""`, "b="},
		{"a=1 b=1", `map a "1" "2"`, "a=2 b=1"},

		{"a=1", `swap a "1" "2"`, "a=2"},
		{"a=2", `swap a "1" "2"`, "a=1"},
		{"a=3", `swap a "1" "2"`, "a=3"},
		{"a=", `swap a "1" ""`, "a=1"},
		{"a=1", `swap a "1" ""`, "a="},
		{"b=", `swap a "" "2"`, "b="},
		{"b=", `swap a "2" ""`, "b="},
		{"a=1 b=2", `swap b "1" "2"`, "a=1 b=1"},
	} {
		before := settings(c.before)
		slices.SortFunc(before, func(a, b api.Setting) int { return strings.Compare(a.Key, b.Key) })
		l, e := migrate.Run(before, rules(c.rule))
		isSettings(t, i, l, e, settings(c.want), api.OK)
	}
}

func TestP154Run(t *testing.T) {
	for i, c := range []struct{ before, rules, want string }{
		{"a=1 b=2", ``, "a=1 b=2"},
		{"", ``, ""},
		{"a=1", `rename a b; rename b c; copy c a; drop c`, "a=1"},
		{"a=1 b=2", `rename a t; rename b a; rename t b`, "a=2 b=1"},
		{"a=1", `map a "1" "2"; map a "2" "3"; map a "1" "4"`, "a=3"},
		{"a=1", `drop a; default a "2"; default a "3"; set a "4"`, "a=4"},
		{"a/x=1 b/x=2", `prefix a c/a; prefix b c/b; prefix c d`, "d/a/x=1 d/b/x=2"},
		{"z=1", `set y "2"; set x "3"; copy z A`, "A=1 x=3 y=2 z=1"},
	} {
		var l []string
		if c.rules != "" {
			l = strings.Split(c.rules, "; ")
		}
		s, e := migrate.Run(settings(c.before), rules(l...))
		isSettings(t, i, s, e, settings(c.want), api.OK)
	}
	l := slices.Repeat(rules(`swap a "1" "2"`), api.MaxRules)
	s, e := migrate.Run(settings("a=1"), l)
	isSettings(t, "many", s, e, settings("a=1"), api.OK)
	s, e = migrate.Run(settings("a=1"), l[1:])
	isSettings(t, "one less", s, e, settings("a=2"), api.OK)
}

// wrongSettings are refused.
var wrongSettings = []struct {
	l    []api.Setting
	want api.Errno
}{
	{settings("/=1"), api.ErrName},
	{settings("a=1 =2"), api.ErrName},
	{[]api.Setting{{Key: "a", Value: "\n"}}, api.ErrForm},
	{[]api.Setting{{Key: "/", Value: "\n"}}, api.ErrName},
	{[]api.Setting{{Key: "b", Value: "1"}, {Key: "a", Value: "\n"}}, api.ErrForm},
	{[]api.Setting{{Key: "a", Value: long(1001)}}, api.ErrForm},
	{settings("b=1 a=2"), api.ErrOrder},
	{settings("a=1 a=1"), api.ErrOrder},
	{settings("b=1 a=2 /=3"), api.ErrOrder},
	{append(many(api.MaxSettings), settings("n=1")...), api.ErrOrder},
	{append(many(api.MaxSettings), settings("z/=1")...), api.ErrName},
}

// deep is a key below k, which has room for 5 bytes more.
var deep = "k/" + longKey(193)

func TestP154RunErrors(t *testing.T) {
	most := slices.Repeat(rules(`swap a "1" "2"`), api.MaxRules)
	with := func(l []api.Rule, more ...api.Rule) []api.Rule { return append(slices.Clone(l), more...) }
	key := settings(deep + "=1")
	for i, c := range []struct {
		s    []api.Setting
		l    []api.Rule
		want api.Errno
	}{
		{many(api.MaxSettings + 1), nil, api.ErrLarge},
		{many(api.MaxSettings + 1), []api.Rule{{}}, api.ErrLarge},
		{many(api.MaxSettings), with(most, api.Rule{}), api.ErrLarge},
		{nil, with([]api.Rule{{}}, most...), api.ErrLarge},
		{nil, with(most, most[0]), api.ErrLarge},
		{nil, with(most[1:], api.Rule{}), api.ErrKind},
		{nil, []api.Rule{{Kind: api.RuleDrop, Key: "a"}, {Kind: api.RuleDrop, Key: "/", To: "x"}, {}}, api.ErrName},
		{nil, []api.Rule{{Kind: api.RuleDrop, Key: "a", To: "b"}, {Kind: api.RuleDrop}}, api.ErrForm},
		{nil, []api.Rule{{Kind: api.RuleRename, Key: "a", To: "a"}}, api.ErrConflict},

		// A key that grows too long. All rules are checked ahead of what they do.
		{key, rules(`prefix k kk`), api.OK},
		{key, rules(`prefix k kkk`), api.OK},
		{key, rules(`prefix k kkkk`), api.OK},
		{key, rules(`prefix k kkkkk`), api.OK},
		{key, rules(`prefix k kkkkkk`), api.OK},
		{key, rules(`prefix k kkkkkkk`), api.ErrName},
		{key, rules(`prefix k k-k`, `prefix k-k kk`), api.OK},
		{key, rules(`prefix k kkkkkkk`, `drop k`), api.ErrName},
		{key, rules(`prefix l kkkkkkk`), api.OK},
		{key, with(rules(`prefix k kkkkkkk`), api.Rule{}), api.ErrKind},
		{key, with(rules(`prefix k kkkkkkk`), api.Rule{Kind: api.RuleDrop, Key: "a", New: "x"}), api.ErrForm},

		// Too many behind a rule, even if the next one takes one away.
		{many(api.MaxSettings), rules(`set x "1"`), api.ErrLarge},
		{many(api.MaxSettings), rules(`default x "1"`), api.ErrLarge},
		{many(api.MaxSettings), rules(`copy n10000000 x`), api.ErrLarge},
		{many(api.MaxSettings), rules(`set x "1"`, `drop x`), api.ErrLarge},
		{many(api.MaxSettings), with(rules(`set x "1"`), api.Rule{}), api.ErrKind},
		{many(api.MaxSettings), rules(`drop n10000000`, `set x "1"`), api.OK},
		{many(api.MaxSettings), rules(`set n10000000 "2"`, `default n10000001 "2"`, `copy n10000000 n10000001`, `copy y x`, `rename n10000002 x`, `prefix x y`), api.OK},
		{many(api.MaxSettings - 1), rules(`set x "1"`), api.OK},
		{many(api.MaxSettings - 1), rules(`set x "1"`, `copy x y`), api.ErrLarge},
		// Rule by rule.
		{append(key, many(api.MaxSettings-1)...), rules(`prefix k kkkkkkk`, `set x "1"`), api.ErrName},
		{append(key, many(api.MaxSettings-1)...), rules(`set x "1"`, `prefix k kkkkkkk`), api.ErrLarge},
	} {
		s, e := migrate.Run(c.s, c.l)
		if e != c.want || (len(s) == 0) != (e != api.OK) {
			t.Errorf("Run %d: %.1000v, %d, not %d", i, s, e, c.want)
		}
		// Clean has these errors, too.
		if is, e := migrate.Clean(c.s, c.l); c.want != api.OK && (is || e != c.want) {
			t.Errorf("Clean %d: %v, %d, not %d", i, is, e, c.want)
		}
	}
	for i, c := range wrongSettings {
		for _, l := range [][]api.Rule{nil, {{}}, with(most, most...)} {
			s, e := migrate.Run(c.l, l)
			isSettings(t, i, s, e, nil, c.want)
			if is, e := migrate.Clean(c.l, l); is || e != c.want {
				t.Errorf("Clean %d: %v, %d, not %d", i, is, e, c.want)
			}
		}
	}
}

func TestP154Changes(t *testing.T) {
	for i, c := range []struct {
		old, settings string
		want          []api.Change
	}{
		{"", "", nil},
		{"a=1 b=", "a=1 b=", nil},
		{"", "b=1 c=", changes(`set b "1"`, `set c ""`)},
		{"b=1 c=", "", changes(`unset b`, `unset c`)},
		{"a=1 b=2 c=3 d=4", "a=1 b=3 d=4", changes(`unset c`, `set b "3"`)},
		{"b=1 d=1 f=1 h=1", "a=2 b=2 c=2 f=2 g=2", changes(`unset d`, `unset h`, `set a "2"`, `set b "2"`, `set c "2"`, `set f "2"`, `set g "2"`)},
		{"a=", "b=", changes(`unset a`, `set b ""`)},
		{"a=1", "a=", changes(`set a ""`)},
		{"a/b=1", "a=1", changes(`unset a/b`, `set a "1"`)},
	} {
		l, e := migrate.Changes(settings(c.old), settings(c.settings))
		isList(t, i, l, c.want)
		if e != api.OK {
			t.Error(i, e)
		}
	}
	for i, c := range wrongSettings {
		for _, other := range [][]api.Setting{nil, settings("a=1"), settings("a=1 a=1"), c.l} {
			if l, e := migrate.Changes(c.l, other); len(l) != 0 || e != c.want {
				t.Errorf("Changes of %d: %v, %d, not %d", i, l, e, c.want)
			}
		}
		if l, e := migrate.Changes(settings("a=1"), c.l); len(l) != 0 || e != c.want {
			t.Errorf("Changes to %d: %v, %d, not %d", i, l, e, c.want)
		}
	}
	// There is no limit of how many there are.
	all := many(3 * api.MaxSettings)
	if l, e := migrate.Changes(all[1:], all[:len(all)-1]); len(l) != 2 || e != api.OK {
		t.Error(len(l), e)
	}
}

func TestP155Clean(t *testing.T) {
	for i, c := range []struct {
		before, rules string
		want          bool
	}{
		{"a=1", ``, true},
		{"", ``, true},

		{"a=1", `rename a b`, true},
		{"a=1 b=2", `rename a b`, false},
		{"a=1 b=1", `rename a b`, false},
		{"a=1 b=", `rename a b`, false},
		{"b=2", `rename a b`, false},
		{"c=2", `rename a b`, true},
		{"a=1 b/c=2 bb=3", `rename a b`, true},

		{"a=1 a/b=2", `prefix a c`, true},
		{"a/b=1 c=2", `prefix a c`, false},
		{"a/b=1 c=", `prefix a c`, false},
		{"a/b=1 c/d=2", `prefix a c`, false},
		{"a/b=1 c/b/d=2", `prefix a c`, false},
		{"c/d=2", `prefix a c`, false},
		{"a/b=1 c-d=2 cc=3 d/c=4", `prefix a c`, true},
		{"a/b=1 c=2", `prefix a c/d`, true},
		{"a/b=1 c/d/e=2", `prefix a c/d`, false},
		{"x=1", `prefix a c`, true},

		{"a=1", `map a "1" "2"`, true},
		{"a=2", `map a "1" "2"`, false},
		{"a=3", `map a "1" "2"`, true},
		{"a=", `map a "1" ""`, false},
		{"b=", `map a "1" ""`, true},
		{"b=2", `map a "1" "2"`, true},

		{"a=1", `swap a "1" "2"`, true},
		{"a=2", `swap a "1" "2"`, true},
		{"a=3", `swap a "1" "2"`, true},
		{"", `swap a "1" "2"`, true},

		// Each one finds what the ones before have made.
		{"a=1 b=2", `rename b c; rename a b; rename c a`, true},
		{"a=1 b=2", `rename b c; rename a b; rename b c`, false},
		{"a=1 b=2", `rename a b; rename b c`, false},
		{"a=1", `map a "1" "2"; map a "2" "3"`, true},
		{"a=2", `map a "2" "1"; map a "1" "2"`, true},
		{"a=1", `swap a "1" "2"; map a "1" "2"`, false},
		{"a=2", `swap a "1" "2"; map a "1" "2"`, true},
		{"a=1 b/x=2", `rename a b/y; prefix b c; prefix c a`, true},
		{"a=1 b/x=2", `prefix b a/y; prefix a b`, true},
		{"a=1 b/x=2", `prefix b c; rename a b; prefix c b/d`, true},
		{"a=1 b/x=2", `prefix b c; rename a b; prefix c b`, false},
	} {
		var l []api.Rule
		if c.rules != "" {
			l = rules(strings.Split(c.rules, "; ")...)
		}
		if is, e := migrate.Clean(settings(c.before), l); is != c.want || e != api.OK {
			t.Errorf("Clean %d: %v, %d", i, is, e)
		}
	}
	for i, c := range []struct {
		before, rules string
		want          api.Errno
	}{
		{"a=1", `drop x`, api.ErrState},
		{"a=1 b=2", `rename a b; set a "1"`, api.ErrState},
		{"a=1", `copy a b`, api.ErrState},
		{"a=1", `rename a b; default b "1"; rename b c`, api.ErrState},
		// Run's come ahead, however far behind.
		{deep + "=1", `drop x; prefix k kkkkkkk`, api.ErrName},
		{deep + "=1", `drop x; prefix k kkkkkk`, api.ErrState},
	} {
		if is, e := migrate.Clean(settings(c.before), rules(strings.Split(c.rules, "; ")...)); is || e != c.want {
			t.Errorf("Clean %d: %v, %d, not %d", i, is, e, c.want)
		}
	}
	// The most that there can be.
	if is, e := migrate.Clean(many(api.MaxSettings), slices.Repeat(rules(`swap a "1" "2"`), api.MaxRules)); !is || e != api.OK {
		t.Error(is, e)
	}
	if is, e := migrate.Clean(many(api.MaxSettings), rules(`set n10000000 "1"`)); is || e != api.ErrState {
		t.Error(is, e)
	}
}

// slowRun does a rule by the words of P153, and tells by those of P155 whether it finds nothing that is in its way.
func slowRun(l []api.Setting, r api.Rule) ([]api.Setting, bool) {
	find := func(key string) int {
		return slices.IndexFunc(l, func(s api.Setting) bool { return s.Key == key })
	}
	within := func(key, top string) bool { return key == top || strings.HasPrefix(key, top+"/") }
	without := func(l []api.Setting, gone func(key string) bool) []api.Setting {
		return slices.DeleteFunc(slices.Clone(l), func(s api.Setting) bool { return gone(s.Key) })
	}
	give := func(l []api.Setting, key, value string) []api.Setting {
		return append(without(l, func(k string) bool { return k == key }), api.Setting{Key: key, Value: value})
	}
	at := find(r.Key)
	switch r.Kind {
	case api.RuleRename:
		clean := find(r.To) < 0
		if at < 0 {
			return l, clean
		}
		return give(without(l, func(key string) bool { return key == r.Key }), r.To, l[at].Value), clean
	case api.RulePrefix:
		clean := !slices.ContainsFunc(l, func(s api.Setting) bool { return within(s.Key, r.To) })
		rest := without(l, func(key string) bool { return within(key, r.Key) })
		for _, s := range l {
			if within(s.Key, r.Key) {
				rest = give(rest, strings.Replace(s.Key, r.Key, r.To, 1), s.Value)
			}
		}
		return rest, clean
	case api.RuleCopy:
		if at >= 0 {
			return give(l, r.To, l[at].Value), false
		}
	case api.RuleSet:
		return give(l, r.Key, r.New), false
	case api.RuleDefault:
		if at < 0 {
			return give(l, r.Key, r.New), false
		}
	case api.RuleDrop:
		return without(l, func(key string) bool { return key == r.Key }), false
	case api.RuleMap:
		if at >= 0 && l[at].Value == r.Old {
			return give(l, r.Key, r.New), true
		}
		return l, at < 0 || l[at].Value != r.New
	case api.RuleSwap:
		if at >= 0 && l[at].Value == r.Old {
			return give(l, r.Key, r.New), true
		}
		if at >= 0 && l[at].Value == r.New {
			return give(l, r.Key, r.Old), true
		}
		return l, true
	}
	return l, false
}

// TestP154Words holds Run and Changes against slow ways by the words of P153 and P154.
func TestP154Words(t *testing.T) {
	rnd := rand.New(rand.NewPCG(5, 6))
	changed := 0
	for range 50000 {
		before := guessSettings(rnd)
		behind := before
		var l []api.Rule
		for range rnd.IntN(6) {
			l = append(l, guessRule(rnd, allKinds...))
		}
		for _, r := range l {
			behind, _ = slowRun(behind, r)
		}
		behind = slices.Clone(behind)
		slices.SortFunc(behind, func(a, b api.Setting) int { return strings.Compare(a.Key, b.Key) })
		s, e := migrate.Run(before, l)
		if !slices.Equal(s, behind) || e != api.OK {
			t.Fatal(before, l, s, e, "not", behind)
		}
		c, e := migrate.Changes(before, s)
		want, _ := disk.Diff(api.Machine{Settings: before}, api.Machine{Settings: s})
		if !slices.Equal(c, want) || e != api.OK {
			t.Fatal(before, s, c, e, "not", want)
		}
		if len(c) > 1 {
			changed++
		}
		m, e := disk.Apply(api.Machine{Settings: before}, c)
		if !slices.Equal(m.Settings, s) || e != api.OK {
			t.Fatal(before, s, c, m, e)
		}
	}
	if changed < 10000 {
		t.Error("too few are so:", changed)
	}
}

// TestP262Clean sees that rules that are clean, by the words of P155, lead back to the settings that were.
func TestP262Clean(t *testing.T) {
	rnd := rand.New(rand.NewPCG(7, 8))
	cleans, changed := 0, 0
	for range 50000 {
		before := guessSettings(rnd)
		var l []api.Rule
		for range rnd.IntN(6) {
			l = append(l, guessRule(rnd, backKinds...))
		}
		want := true
		there := before
		for _, r := range l {
			var free bool
			there, free = slowRun(there, r)
			want = want && free
		}
		is, e := migrate.Clean(before, l)
		if is != want || e != api.OK {
			t.Fatal(before, l, is, e)
		}
		if !is {
			continue
		}
		cleans++
		behind, e := migrate.Run(before, l)
		if e != api.OK {
			t.Fatal(before, l, e)
		}
		if !slices.Equal(behind, before) {
			changed++
		}
		back, e := migrate.InverseAll(l)
		if e != api.OK {
			t.Fatal(before, l, e)
		}
		was, e := migrate.Run(behind, back)
		isSettings(t, l, was, e, before, api.OK)
	}
	if cleans < 5000 || cleans > 45000 || changed < 3000 {
		t.Error("too few are so:", cleans, changed)
	}
}
