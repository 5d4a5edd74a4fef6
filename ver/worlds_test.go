package ver_test

import (
	"math/rand/v2"
	"slices"
	"strconv"
	"testing"

	"outfitter/api"
	"outfitter/ver"
)

var (
	someFacts    = []api.Setting{{Key: "empty"}, {Key: "kernel", Value: "5.3.0"}, {Key: "odd", Value: "5.3"}, {Key: "os", Value: "unix"}, {Key: "soon", Value: "6.0.0-a"}}
	someSettings = []api.Setting{{Key: "A/b", Value: "1"}, {Key: "kernel", Value: "7.0.0"}, {Key: "z", Value: ""}}
)

func TestP9Holds(t *testing.T) {
	for text, want := range map[string]bool{
		"always":                            true,
		`fact os = "unix"`:                  true,
		`fact os = "uni"`:                   false,
		`fact os = ""`:                      false,
		`fact empty = ""`:                   true,
		`fact none = ""`:                    false,
		`fact z = ""`:                       false,
		`setting A/b = "1"`:                 true,
		`setting A/b = "2"`:                 false,
		`setting z = ""`:                    true,
		`setting y = ""`:                    false,
		`setting os = "unix"`:               false,
		"has z":                             true,
		"has A/b":                           true,
		"has A":                             false,
		"has os":                            false,
		`version kernel in "^5.0.0"`:        true,
		`version kernel in "^7.0.0"`:        false,
		`version kernel in "<5.3.0"`:        false,
		`version kernel in "none"`:          false,
		`version kernel in "1.0.0, 5.0.0"`:  true,
		`version odd in "*"`:                false,
		`version os in "*"`:                 false,
		`version empty in "*"`:              false,
		`version none in "*"`:               false,
		`version z in "*"`:                  false,
		`version soon in "^5.0.0"`:          false,
		`version soon in ">=5.0.0"`:         false,
		`version soon in ">=6.0.0-0"`:       true,
		`version soon in "*"`:               true,
		"not always":                        false,
		"not has os":                        true,
		"(and)":                             true,
		"(or)":                              false,
		"(and always)":                      true,
		"(and not always)":                  false,
		"(or always)":                       true,
		"(or not always)":                   false,
		"(always and always and not (and))": false,
		"(always and (or) and always)":      false,
		"(always and has z)":                true,
		"((or) or has y or has z)":          true,
		"((or) or has y)":                   false,
		"not ((or) or (has z and has y))":   true,
	} {
		if is, e := ver.Holds(parseCond(t, text), someFacts, someSettings); is != want || e != api.OK {
			t.Errorf("Holds(%s): %v, %d", text, is, e)
		}
	}
	if is, e := ver.Holds(parseCond(t, "(fact a = \"\" or has a)"), nil, nil); is || e != api.OK {
		t.Error(is, e)
	}
}

func TestP9HoldsErrors(t *testing.T) {
	pair := func(key, value string) api.Setting { return api.Setting{Key: key, Value: value} }
	wrong := []api.Setting{{Key: "?"}}
	for i, c := range []struct {
		c               api.Cond
		facts, settings []api.Setting
		want            api.Errno
	}{
		{api.Cond{}, wrong, wrong, api.ErrKind},
		{nested(21, always()), wrong, wrong, api.ErrLarge},
		{always(), []api.Setting{pair("A", "")}, nil, api.ErrName},
		{always(), []api.Setting{pair("a/b", "")}, nil, api.ErrName},
		{always(), []api.Setting{pair("", "")}, nil, api.ErrName},
		{always(), nil, []api.Setting{pair("a//b", "")}, api.ErrName},
		{always(), nil, []api.Setting{pair("A/b", "~")}, api.OK},
		{always(), []api.Setting{pair("a", "\n")}, wrong, api.ErrForm},
		{always(), nil, []api.Setting{pair("a", long(1001))}, api.ErrForm},
		{always(), nil, []api.Setting{pair("a", long(1000))}, api.OK},
		{always(), []api.Setting{pair("b", ""), pair("a", "")}, wrong, api.ErrOrder},
		{always(), []api.Setting{pair("a", ""), pair("a", "b")}, nil, api.ErrOrder},
		{always(), nil, []api.Setting{pair("a", ""), pair("B", "")}, api.ErrOrder},
		{always(), nil, []api.Setting{pair("a", ""), pair("a", "")}, api.ErrOrder},
		{always(), []api.Setting{pair("a", ""), pair("ab", "")}, []api.Setting{pair("B", ""), pair("a", "")}, api.OK},
		// The first bad one decides, of it the first error.
		{always(), []api.Setting{pair("b", ""), pair("a", "\n"), pair("?", "")}, nil, api.ErrForm},
		{always(), []api.Setting{pair("b", ""), pair("A", "\n")}, nil, api.ErrName},
		{always(), []api.Setting{pair("b", ""), pair("a", ""), pair("?", "")}, nil, api.ErrOrder},
		{always(), []api.Setting{pair("b", ""), pair("a", "")}, wrong, api.ErrOrder},
	} {
		if is, e := ver.Holds(c.c, c.facts, c.settings); is != (c.want == api.OK) || e != c.want {
			t.Errorf("Holds %d: %v, %d", i, is, e)
		}
	}
}

func TestP9Names(t *testing.T) {
	for text, want := range map[string][]string{
		"always":                         nil,
		"(and)":                          nil,
		"not has a/B":                    {"setting a/B"},
		`(fact b = "x" and fact a = "")`: {"fact a", "fact b"},
		`(has a or fact a = "" or setting a = "1" or version a in "*" or not not has a)`:       {"fact a", "setting a"},
		`(has b and has B and (version z in "none" or setting a = "1" or fact a-b = ""))`:      {"fact a-b", "fact z", "setting B", "setting a", "setting b"},
		`(and (or not (always or setting x/y = "1" or setting x = "1" or setting x-y = "1")))`: {"setting x", "setting x-y", "setting x/y"},
	} {
		if l, e := ver.Names(parseCond(t, text)); !slices.Equal(l, want) || e != api.OK {
			t.Errorf("Names(%s): %q, %d", text, l, e)
		}
	}
	if l, e := ver.Names(cond(api.CondAll, api.Cond{Kind: api.CondHas, Name: "a"}, cond(api.CondNot))); len(l) != 0 || e != api.ErrForm {
		t.Error(l, e)
	}
}

func TestP10Always(t *testing.T) {
	domains := []api.Domain{
		{Name: "os", Values: []string{"unix", "dos"}},
		{Name: "os", Setting: true, Values: []string{"1"}},
		{Name: "k", Absent: true, Values: []string{"1.0.0", "2.0.0-a", "x"}},
		{Name: "A/b", Setting: true, Absent: true},
		{Name: "gone", Absent: true},
	}
	for text, want := range map[string][2]bool{
		"always":                                 {true, false},
		"not always":                             {false, true},
		`(fact os = "unix" or fact os = "dos")`:  {true, false},
		`(fact os = "unix" and fact os = "dos")`: {false, true},
		`fact os = "dos"`:                        {false, false},
		`fact os = "1"`:                          {false, true},
		`setting os = "1"`:                       {true, false},
		`setting os = "dos"`:                     {false, true},
		"has os":                                 {true, false},
		"has A/b":                                {false, true},
		`setting A/b = ""`:                       {false, true},
		`fact gone = ""`:                         {false, true},
		`fact k = ""`:                            {false, true},
		`(fact k = "1.0.0" or fact k = "2.0.0-a" or fact k = "x")`: {false, false},
		`version k in "*"`:                                              {false, false},
		`version k in ">=2.0.0-a"`:                                      {false, false},
		`version k in ">=2.0.0"`:                                        {false, true},
		`(version k in "*" and fact k = "x")`:                           {false, true},
		`(fact os = "dos" and fact k = "x")`:                            {false, false},
		`(fact os = "dos" or not fact k = "x")`:                         {false, false},
		`(not version k in "*" or fact os = "unix" or fact os = "dos")`: {true, false},
	} {
		every, none, e := ver.Always(parseCond(t, text), domains)
		if every != want[0] || none != want[1] || e != api.OK {
			t.Errorf("Always(%s): %v, %v, %d", text, every, none, e)
		}
	}
	// Without domains there is one world.
	if every, none, e := ver.Always(always(), nil); !every || none || e != api.OK {
		t.Error(every, none, e)
	}
	if every, none, e := ver.Always(cond(api.CondAny), nil); every || !none || e != api.OK {
		t.Error(every, none, e)
	}
}

// values is so many values, each another one.
func values(n int) []string {
	var l []string
	for i := range n {
		l = append(l, strconv.Itoa(i))
	}
	return l
}

// domains are so many of them with so many values each.
func domains(n, each int) []api.Domain {
	var l []api.Domain
	for i := range n {
		l = append(l, api.Domain{Name: "a" + strconv.Itoa(i), Values: values(each)})
	}
	return l
}

func TestP10Errors(t *testing.T) {
	one := values(1)
	bad := api.Domain{Name: "?"}
	has := api.Cond{Kind: api.CondHas, Name: "a"}
	for i, c := range []struct {
		c    api.Cond
		l    []api.Domain
		want api.Errno
	}{
		{api.Cond{}, append(domains(20, 1), bad), api.ErrKind},
		{always(), append(domains(20, 1), bad), api.ErrLarge},
		{always(), append(domains(19, 1), bad), api.ErrName},
		{always(), domains(20, 1), api.OK},
		{always(), []api.Domain{{Name: "a/b", Values: one}}, api.ErrName},
		{always(), []api.Domain{{Name: "a/b", Setting: true, Values: one}}, api.OK},
		{always(), []api.Domain{{Name: "a//b", Setting: true, Values: one}}, api.ErrName},
		{always(), []api.Domain{{Values: one}}, api.ErrName},
		{always(), []api.Domain{{Name: "a", Values: one}, {Name: "a"}}, api.ErrTwice},
		{always(), []api.Domain{{Name: "a", Values: one}, {Name: "b", Values: one}, {Name: "a", Values: one}}, api.ErrTwice},
		{always(), []api.Domain{{Name: "a", Setting: true, Values: one}, {Name: "a", Setting: true, Values: one}}, api.ErrTwice},
		{always(), []api.Domain{{Name: "a", Values: one}, {Name: "a", Setting: true, Values: one}}, api.OK},
		{always(), []api.Domain{{Name: "a"}}, api.ErrEmpty},
		{always(), []api.Domain{{Name: "a", Absent: true}}, api.OK},
		{always(), []api.Domain{{Name: "a", Values: values(20)}}, api.OK},
		{always(), []api.Domain{{Name: "a", Absent: true, Values: values(20)}}, api.OK},
		{always(), []api.Domain{{Name: "a", Values: values(21)}}, api.ErrLarge},
		{always(), []api.Domain{{Name: "a", Values: append(values(20), "\n")}}, api.ErrLarge},
		{always(), []api.Domain{{Name: "a", Values: []string{"\n", "\n"}}}, api.ErrForm},
		{always(), []api.Domain{{Name: "a", Values: []string{"x", "y", "x", "\n"}}}, api.ErrTwice},
		{always(), []api.Domain{{Name: "a", Values: []string{"x", long(1001), "x"}}}, api.ErrForm},
		{always(), []api.Domain{{Name: "a", Values: []string{"", ""}}}, api.ErrTwice},
		// The first bad domain decides.
		{always(), []api.Domain{{Name: "a"}, bad}, api.ErrEmpty},
		{always(), []api.Domain{{Name: "a", Values: []string{"\n"}}, bad}, api.ErrForm},
		{always(), []api.Domain{bad, {Name: "a"}}, api.ErrName},
		// Then how many worlds there are, and then what is used.
		{has, append(domains(19, 20), bad), api.ErrName},
		{has, domains(20, 20), api.ErrLarge},
		{has, domains(10, 2), api.ErrLarge},
		{always(), domains(10, 2), api.ErrLarge},
		{always(), domains(9, 2), api.OK},
		{always(), domains(3, 10), api.OK},
		{always(), append(domains(3, 10), api.Domain{Name: "b", Values: one}), api.OK},
		{always(), append(domains(3, 10), api.Domain{Name: "b", Absent: true}), api.OK},
		{always(), append(domains(3, 10), api.Domain{Name: "b", Absent: true, Values: one}), api.ErrLarge},
		{has, domains(3, 10), api.ErrNone},
		{has, nil, api.ErrNone},
		{has, []api.Domain{{Name: "a", Values: one}}, api.ErrNone},
		{api.Cond{Kind: api.CondSetting, Name: "a"}, []api.Domain{{Name: "a", Values: one}}, api.ErrNone},
		{api.Cond{Kind: api.CondFact, Name: "a"}, []api.Domain{{Name: "a", Setting: true, Values: one}}, api.ErrNone},
		{api.Cond{Kind: api.CondVersion, Name: "a", Value: "*"}, []api.Domain{{Name: "a", Setting: true, Values: one}}, api.ErrNone},
		{cond(api.CondAny, always(), nested(2, has)), domains(1, 1), api.ErrNone},
	} {
		every, none, e := ver.Always(c.c, c.l)
		if every != (c.want == api.OK) || none || e != c.want {
			t.Errorf("Always %d: %v, %v, %d", i, every, none, e)
		}
	}
}

// guess makes a condition over the facts and settings a, b and c.
func guess(rnd *rand.Rand, deep int) api.Cond {
	name, value := string(rune('a'+rnd.IntN(3))), strconv.Itoa(rnd.IntN(3))+".0.0"
	kind := 1 + rnd.IntN(8)
	if deep == 0 {
		kind = 1 + rnd.IntN(5)
	}
	c := api.Cond{Kind: kind}
	switch kind {
	case api.CondFact, api.CondSetting, api.CondVersion:
		c.Name, c.Value = name, value
	case api.CondHas:
		c.Name = name
	case api.CondNot:
		c.Args = []api.Cond{guess(rnd, deep-1)}
	case api.CondAll, api.CondAny:
		for range rnd.IntN(4) {
			c.Args = append(c.Args, guess(rnd, deep-1))
		}
	}
	return c
}

// everywhere asks Holds of each world, one domain after the other, and counts where a condition holds.
func everywhere(t *testing.T, c api.Cond, l []api.Domain, facts, settings []api.Setting) (int, int) {
	if len(l) == 0 {
		is, e := ver.Holds(c, facts, settings)
		if e != api.OK {
			t.Fatal(c, facts, settings, e)
		}
		if is {
			return 1, 1
		}
		return 0, 1
	}
	d := l[0]
	yes, all := 0, 0
	if d.Absent {
		yes, all = everywhere(t, c, l[1:], facts, settings)
	}
	for _, value := range d.Values {
		f, s := facts, settings
		if d.Setting {
			s = append(slices.Clone(s), api.Setting{Key: d.Name, Value: value})
		} else {
			f = append(slices.Clone(f), api.Setting{Key: d.Name, Value: value})
		}
		y, a := everywhere(t, c, l[1:], f, s)
		yes, all = yes+y, all+a
	}
	return yes, all
}

// TestP10Worlds holds Always against Holds in each world, and reads back what is printed.
func TestP10Worlds(t *testing.T) {
	rnd := rand.New(rand.NewPCG(3, 4))
	for range 2000 {
		var l []api.Domain
		for i := range 6 {
			d := api.Domain{Name: string(rune('a' + i/2)), Setting: i%2 == 1, Absent: rnd.IntN(2) == 0}
			for k := range 3 {
				if rnd.IntN(2) == 0 {
					d.Values = append(d.Values, strconv.Itoa(k)+".0.0")
				}
			}
			if len(d.Values) == 0 {
				d.Absent = true
			}
			l = append(l, d)
		}
		c := guess(rnd, 3)
		yes, all := everywhere(t, c, l, nil, nil)
		if all > 1000 {
			continue
		}
		every, none, e := ver.Always(c, l)
		if every != (yes == all) || none != (yes == 0) || e != api.OK {
			t.Fatalf("Always(%v, %v): %v, %v, %d; %d of %d", c, l, every, none, e, yes, all)
		}
		text, e := ver.PrintCond(c)
		if e != api.OK || !same(parseCond(t, text), c) {
			t.Fatalf("PrintCond(%v): %q, %d", c, text, e)
		}
	}
}
