package migrate_test

import (
	"math"
	"math/rand/v2"
	"slices"
	"testing"

	"outfitter/api"
	"outfitter/disk"
	"outfitter/migrate"
	"outfitter/pack"
)

func TestP150CheckStep(t *testing.T) {
	for i, c := range []struct {
		s    api.Step
		want api.Errno
	}{
		{api.Step{Kind: api.StepSet, Name: "A/b", Value: "x"}, api.OK},
		{api.Step{Kind: api.StepSet, Name: longKey(200), Value: long(1000)}, api.OK},
		{api.Step{Kind: api.StepSet, Name: "a"}, api.OK},
		{api.Step{Kind: api.StepSet, Name: "stage"}, api.OK},
		{api.Step{Kind: api.StepSet, Name: "outfit/x"}, api.OK},
		{api.Step{Kind: api.StepUnset, Name: "A/b"}, api.OK},
		{api.Step{Kind: api.StepUnset, Name: "stage/x"}, api.OK},
		{api.Step{Kind: api.StepWrite, Name: "A/b", Value: "x"}, api.OK},
		{api.Step{Kind: api.StepWrite, Name: "a"}, api.OK},
		{api.Step{Kind: api.StepWrite, Name: "stages/x"}, api.OK},
		{api.Step{Kind: api.StepWrite, Name: "a/outfit"}, api.OK},
		{api.Step{Kind: api.StepErase, Name: "A/b"}, api.OK},
		{api.Step{Kind: api.StepStart, Name: "a-b.c"}, api.OK},
		{api.Step{Kind: api.StepStart, Name: "stage"}, api.OK},
		{api.Step{Kind: api.StepStop, Name: "outfit"}, api.OK},

		{api.Step{}, api.ErrKind},
		{api.Step{Kind: 7, Name: "a"}, api.ErrKind},
		{api.Step{Kind: -1, Name: "a"}, api.ErrKind},
		{api.Step{Kind: math.MinInt, Name: "/", Value: "\n"}, api.ErrKind},
		{api.Step{Kind: math.MaxInt, Name: "stage", Value: "\n"}, api.ErrKind},

		{api.Step{Kind: api.StepSet}, api.ErrName},
		{api.Step{Kind: api.StepSet, Name: "/", Value: "\n"}, api.ErrName},
		{api.Step{Kind: api.StepSet, Name: longKey(201)}, api.ErrName},
		{api.Step{Kind: api.StepUnset, Name: "a b", Value: "x"}, api.ErrName},
		{api.Step{Kind: api.StepWrite, Name: "stage/", Value: "\n"}, api.ErrName},
		{api.Step{Kind: api.StepErase, Name: "stage//x"}, api.ErrName},
		{api.Step{Kind: api.StepStart, Name: "A"}, api.ErrName},
		{api.Step{Kind: api.StepStart, Name: "a/b"}, api.ErrName},
		{api.Step{Kind: api.StepStop, Name: "a_b"}, api.ErrName},
		{api.Step{Kind: api.StepStop, Name: long(41), Value: "x"}, api.ErrName},

		{api.Step{Kind: api.StepWrite, Name: "stage"}, api.ErrDenied},
		{api.Step{Kind: api.StepWrite, Name: "stage/x/y", Value: "\n"}, api.ErrDenied},
		{api.Step{Kind: api.StepWrite, Name: "outfit"}, api.ErrDenied},
		{api.Step{Kind: api.StepErase, Name: "outfit/x", Value: "x"}, api.ErrDenied},
		{api.Step{Kind: api.StepErase, Name: "stage"}, api.ErrDenied},

		{api.Step{Kind: api.StepSet, Name: "a", Value: "\n"}, api.ErrForm},
		{api.Step{Kind: api.StepSet, Name: "a", Value: long(1001)}, api.ErrForm},
		{api.Step{Kind: api.StepWrite, Name: "a", Value: "\x7f"}, api.ErrForm},
		{api.Step{Kind: api.StepUnset, Name: "a", Value: "x"}, api.ErrForm},
		{api.Step{Kind: api.StepErase, Name: "a", Value: "x"}, api.ErrForm},
		{api.Step{Kind: api.StepStart, Name: "a", Value: "x"}, api.ErrForm},
		{api.Step{Kind: api.StepStop, Name: "a", Value: "x"}, api.ErrForm},
	} {
		if e := migrate.CheckStep(c.s); e != c.want {
			t.Errorf("CheckStep %d: %d, not %d", i, e, c.want)
		}
		// As it is in a package.
		p := api.Package{Name: "p", Components: []api.Component{{Name: "c", When: api.Cond{Kind: api.CondTrue}, Steps: []api.Step{c.s}}}}
		if e := pack.Check(p); e != c.want {
			t.Errorf("pack.Check %d: %d, not %d", i, e, c.want)
		}
		// And Do says the same, ahead of what the machine has against it.
		if l, e := migrate.Do(before(), c.s); c.want != api.OK && (len(l) != 0 || e != c.want) {
			t.Errorf("Do %d: %v, %d, not %d", i, l, e, c.want)
		}
	}
}

// before is a machine with some of everything.
func before() api.Machine {
	return machine(`fact os "x"`, `file a "one\n"`, `file b/c ""`, `file line "\n"`, `file raw "one"`, `run tool "one\n"`, `set a "1"`, `set k/l ""`, `service off a 0 0`, `service on b/c 1 1`, `service s a 1 0`)
}

func TestP150Do(t *testing.T) {
	for i, c := range []struct {
		s    api.Step
		want []api.Change
	}{
		{api.Step{Kind: api.StepSet, Name: "a", Value: "2"}, changes(`set a "2"`)},
		{api.Step{Kind: api.StepSet, Name: "a", Value: "1"}, nil},
		{api.Step{Kind: api.StepSet, Name: "a"}, changes(`set a ""`)},
		{api.Step{Kind: api.StepSet, Name: "k/l"}, nil},
		{api.Step{Kind: api.StepSet, Name: "k", Value: ""}, changes(`set k ""`)},
		{api.Step{Kind: api.StepSet, Name: "os", Value: "x"}, changes(`set os "x"`)},
		{api.Step{Kind: api.StepSet, Name: "raw", Value: "one"}, changes(`set raw "one"`)},

		{api.Step{Kind: api.StepUnset, Name: "a"}, changes(`unset a`)},
		{api.Step{Kind: api.StepUnset, Name: "k/l"}, changes(`unset k/l`)},
		{api.Step{Kind: api.StepUnset, Name: "k"}, nil},
		{api.Step{Kind: api.StepUnset, Name: "os"}, nil},
		{api.Step{Kind: api.StepUnset, Name: "raw"}, nil},

		{api.Step{Kind: api.StepWrite, Name: "new", Value: "a b"}, changes(`put new "a b\n"`)},
		{api.Step{Kind: api.StepWrite, Name: "new"}, changes(`put new "\n"`)},
		{api.Step{Kind: api.StepWrite, Name: "b/d", Value: `"\`}, changes(`put b/d "\"\\\n"`)},
		{api.Step{Kind: api.StepWrite, Name: "a", Value: "one"}, nil},
		{api.Step{Kind: api.StepWrite, Name: "a", Value: "two"}, changes(`put a "two\n"`)},
		{api.Step{Kind: api.StepWrite, Name: "a"}, changes(`put a "\n"`)},
		{api.Step{Kind: api.StepWrite, Name: "line"}, nil},
		{api.Step{Kind: api.StepWrite, Name: "b/c"}, changes(`put b/c "\n"`)},
		{api.Step{Kind: api.StepWrite, Name: "raw", Value: "one"}, changes(`put raw "one\n"`)},
		// It can be run no more.
		{api.Step{Kind: api.StepWrite, Name: "tool", Value: "one"}, changes(`put tool "one\n"`)},
		{api.Step{Kind: api.StepWrite, Name: "tool", Value: "two"}, changes(`put tool "two\n"`)},
		{api.Step{Kind: api.StepWrite, Name: "long", Value: long(1000)}, changes(`put long "` + long(1000) + `\n"`)},

		{api.Step{Kind: api.StepErase, Name: "a"}, changes(`remove a`)},
		{api.Step{Kind: api.StepErase, Name: "tool"}, changes(`remove tool`)},
		{api.Step{Kind: api.StepErase, Name: "b/c"}, changes(`remove b/c`)},
		{api.Step{Kind: api.StepErase, Name: "b"}, nil},
		{api.Step{Kind: api.StepErase, Name: "a/b"}, nil},
		{api.Step{Kind: api.StepErase, Name: "k/l"}, nil},

		// Path and Auto stay.
		{api.Step{Kind: api.StepStart, Name: "off"}, changes(`service off a 0 1`)},
		{api.Step{Kind: api.StepStart, Name: "s"}, changes(`service s a 1 1`)},
		{api.Step{Kind: api.StepStart, Name: "on"}, nil},
		{api.Step{Kind: api.StepStop, Name: "on"}, changes(`service on b/c 1 0`)},
		{api.Step{Kind: api.StepStop, Name: "off"}, nil},
		{api.Step{Kind: api.StepStop, Name: "s"}, nil},
	} {
		l, e := migrate.Do(before(), c.s)
		isList(t, i, l, c.want)
		if e != api.OK {
			t.Error(i, e)
		}
	}
	if l, e := migrate.Do(api.Machine{}, api.Step{Kind: api.StepSet, Name: "a"}); !slices.Equal(l, changes(`set a ""`)) || e != api.OK {
		t.Error(l, e)
	}
}

func TestP150DoErrors(t *testing.T) {
	bad := func(set func(m *api.Machine)) api.Machine {
		m := before()
		set(&m)
		return m
	}
	for i, c := range []struct {
		m    api.Machine
		s    api.Step
		want api.Errno
	}{
		// The machine comes first, even if the step needs nothing.
		{bad(func(m *api.Machine) { m.Settings[1].Value = "\n" }), api.Step{}, api.ErrForm},
		{bad(func(m *api.Machine) { m.Settings[1].Key = "A" }), api.Step{Kind: api.StepUnset, Name: "none"}, api.ErrOrder},
		{bad(func(m *api.Machine) { m.Services[0].Path = "" }), api.Step{Kind: api.StepStart, Name: "none"}, api.ErrName},
		{bad(func(m *api.Machine) { m.Files[1].Path = "a/b" }), api.Step{Kind: 7}, api.ErrConflict},
		{bad(func(m *api.Machine) { m.Facts = make([]api.Setting, api.MaxFacts+1) }), api.Step{}, api.ErrLarge},

		// Then the step, ahead of what there is.
		{before(), api.Step{Kind: api.StepStart, Name: "None"}, api.ErrName},
		{before(), api.Step{Kind: api.StepStop, Name: "none", Value: "x"}, api.ErrForm},
		{before(), api.Step{Kind: api.StepWrite, Name: "a/b", Value: "\n"}, api.ErrForm},
		{machine(`file stage ""`), api.Step{Kind: api.StepWrite, Name: "stage/x"}, api.ErrDenied},

		{before(), api.Step{Kind: api.StepStart, Name: "none"}, api.ErrNone},
		{before(), api.Step{Kind: api.StepStop, Name: "none"}, api.ErrNone},
		{before(), api.Step{Kind: api.StepStart, Name: "a"}, api.ErrNone},
		{before(), api.Step{Kind: api.StepStop, Name: "tool"}, api.ErrNone},
		{full(), api.Step{Kind: api.StepStart, Name: "none"}, api.ErrNone},

		{before(), api.Step{Kind: api.StepWrite, Name: "a/b"}, api.ErrConflict},
		{before(), api.Step{Kind: api.StepWrite, Name: "b/c/d/e"}, api.ErrConflict},
		{before(), api.Step{Kind: api.StepWrite, Name: "b"}, api.ErrConflict},
		{full(), api.Step{Kind: api.StepWrite, Name: numbered(0) + "/x"}, api.ErrConflict},
		{full(), api.Step{Kind: api.StepWrite, Name: "x"}, api.ErrLarge},
		{full(), api.Step{Kind: api.StepSet, Name: "x"}, api.ErrLarge},

		{full(), api.Step{Kind: api.StepWrite, Name: numbered(0)}, api.OK},
		{full(), api.Step{Kind: api.StepSet, Name: numbered(0), Value: "x"}, api.OK},
		{full(), api.Step{Kind: api.StepStart, Name: numbered(0)}, api.OK},
		{full(), api.Step{Kind: api.StepUnset, Name: "x"}, api.OK},
		{full(), api.Step{Kind: api.StepErase, Name: "x"}, api.OK},
	} {
		if l, e := migrate.Do(c.m, c.s); e != c.want || e != api.OK && len(l) != 0 {
			t.Errorf("Do %d: %v, %d, not %d", i, l, e, c.want)
		}
		n := 0
		if c.want == api.OK {
			n = 1
		}
		if l, many, e := migrate.DoAll(c.m, []api.Step{c.s}); e != c.want || many != n || e != api.OK && len(l) != 0 {
			t.Errorf("DoAll %d: %v, %d, %d, not %d", i, l, many, e, c.want)
		}
	}
}

func TestP150DoAll(t *testing.T) {
	set := func(name, value string) api.Step {
		return api.Step{Kind: api.StepSet, Name: name, Value: value}
	}
	step := func(kind int, name string) api.Step { return api.Step{Kind: kind, Name: name} }
	l := func(l ...api.Step) []api.Step { return l }
	nearly := full()
	nearly.Files, nearly.Settings = nearly.Files[1:], nearly.Settings[1:]
	for i, c := range []struct {
		m    api.Machine
		l    []api.Step
		want []api.Change
		n    int
		e    api.Errno
	}{
		{before(), nil, nil, 0, api.OK},
		{before(), l(set("a", "1"), step(api.StepUnset, "none")), nil, 2, api.OK},
		// Each one finds what the ones before have made.
		{before(), l(set("x", "1"), set("x", "1"), set("x", "2"), set("x", "1")), changes(`set x "1"`, `set x "2"`, `set x "1"`), 4, api.OK},
		{before(), l(step(api.StepUnset, "a"), step(api.StepUnset, "a"), set("a", "1")), changes(`unset a`, `set a "1"`), 3, api.OK},
		{before(), l(step(api.StepErase, "a"), step(api.StepErase, "a"), step(api.StepWrite, "a/b"), step(api.StepErase, "a/b"), step(api.StepWrite, "a")), changes(`remove a`, `put a/b "\n"`, `remove a/b`, `put a "\n"`), 5, api.OK},
		{before(), l(step(api.StepStart, "s"), step(api.StepStart, "s"), step(api.StepStop, "s"), step(api.StepStop, "s"), step(api.StepStart, "off")), changes(`service s a 1 1`, `service s a 1 0`, `service off a 0 1`), 5, api.OK},
		{before(), l(step(api.StepWrite, "tool"), step(api.StepWrite, "tool"), set("tool", ""), step(api.StepErase, "tool")), changes(`put tool "\n"`, `set tool ""`, `remove tool`), 4, api.OK},
		{nearly, l(set("x", ""), step(api.StepUnset, "x"), set("y", "")), changes(`set x ""`, `unset x`, `set y ""`), 3, api.OK},

		{before(), l(step(0, "a")), nil, 0, api.ErrKind},
		{before(), l(set("a", "2"), set("b", "2"), step(api.StepStart, "none"), step(0, "")), nil, 2, api.ErrNone},
		{before(), l(set("a", "1"), set("a", "\n"), step(api.StepStart, "none")), nil, 1, api.ErrForm},
		{before(), l(step(api.StepWrite, "x"), step(api.StepWrite, "x/y")), nil, 1, api.ErrConflict},
		{before(), l(step(api.StepErase, "a"), step(api.StepWrite, "a/x"), set("z", ""), step(api.StepWrite, "a")), nil, 3, api.ErrConflict},
		{nearly, l(set("x", ""), step(api.StepWrite, "x"), set("y", "")), nil, 2, api.ErrLarge},
		{nearly, l(step(api.StepWrite, "x"), step(api.StepWrite, "y")), nil, 1, api.ErrLarge},
		{machine(`file a ""`), l(step(api.StepUnset, "a"), step(api.StepStop, "a")), nil, 1, api.ErrNone},
	} {
		got, n, e := migrate.DoAll(c.m, c.l)
		isList(t, i, got, c.want)
		if n != c.n || e != c.e {
			t.Errorf("DoAll %d: %d, %d, not %d, %d", i, n, e, c.n, c.e)
		}
	}
	// A wrong machine is not the fault of a step.
	bad := before()
	bad.Facts[0].Key = "A"
	for _, l := range [][]api.Step{nil, l(set("a", "1")), l(set("a", "1"), step(0, ""))} {
		if got, n, e := migrate.DoAll(bad, l); len(got) != 0 || n != 0 || e != api.ErrName {
			t.Error(got, n, e)
		}
	}
}

// slowDo says by the words of P150 what a step changes.
func slowDo(m api.Machine, s api.Step) ([]api.Change, api.Errno) {
	var c api.Change
	needless := false
	switch s.Kind {
	case api.StepSet:
		value, e := disk.Setting(m, s.Name)
		c.Kind, c.Setting = api.ChangeSet, api.Setting{Key: s.Name, Value: s.Value}
		needless = e == api.OK && value == s.Value
	case api.StepUnset:
		_, e := disk.Setting(m, s.Name)
		c.Kind, c.Setting.Key = api.ChangeUnset, s.Name
		needless = e == api.ErrNone
	case api.StepWrite:
		f, e := disk.File(m, s.Name)
		c.Kind, c.File = api.ChangePut, api.File{Path: s.Name, Data: s.Value + "\n"}
		needless = e == api.OK && f.Data == s.Value+"\n" && !f.Runs
	case api.StepErase:
		_, e := disk.File(m, s.Name)
		c.Kind, c.File.Path = api.ChangeRemove, s.Name
		needless = e == api.ErrNone
	case api.StepStart, api.StepStop:
		v, e := disk.Service(m, s.Name)
		if e != api.OK {
			return nil, e
		}
		needless = v.On == (s.Kind == api.StepStart)
		v.On = !v.On
		c.Kind, c.Service = api.ChangeService, v
	}
	if needless {
		return nil, api.OK
	}
	_, e := disk.Apply(m, []api.Change{c})
	if e != api.OK {
		return nil, e
	}
	return []api.Change{c}, api.OK
}

// TestP150Words holds Do and DoAll against a slow way by the words of P150, and sees that disk.Undo leads back.
func TestP150Words(t *testing.T) {
	rnd := rand.New(rand.NewPCG(1, 2))
	seen := map[api.Errno]int{}
	for range 20000 {
		m := before()
		start := m
		var l []api.Step
		var want []api.Change
		e := api.OK
		for n := rnd.IntN(8); len(l) < n && e == api.OK; {
			s := api.Step{Kind: 1 + rnd.IntN(6), Name: []string{"a", "a/b", "b", "b/c", "tool", "s", "on", "off", "k/l"}[rnd.IntN(9)]}
			if s.Kind == api.StepSet || s.Kind == api.StepWrite {
				s.Value = []string{"", "1", "one"}[rnd.IntN(3)]
			}
			if migrate.CheckStep(s) != api.OK {
				continue
			}
			l = append(l, s)
			var some []api.Change
			some, e = slowDo(m, s)
			if got, f := migrate.Do(m, s); !slices.Equal(got, some) || f != e {
				t.Fatal(s, got, f, some, e)
			}
			want = append(want, some...)
			if e == api.OK {
				m, _ = disk.Apply(m, some)
			}
		}
		n := len(l)
		if e != api.OK {
			want, n = nil, n-1
		}
		got, many, f := migrate.DoAll(start, l)
		if !slices.Equal(got, want) || many != n || f != e {
			t.Fatal(l, got, many, f, "not", want, n, e)
		}
		seen[e]++
		if e == api.OK {
			back, _ := disk.Undo(start, got)
			if was, e := disk.Apply(m, back); !disk.Same(was, start) || e != api.OK {
				t.Fatal(l, was, e)
			}
		}
	}
	for _, e := range []api.Errno{api.OK, api.ErrNone, api.ErrConflict} {
		if seen[e] < 1000 {
			t.Error("too few are so:", e, seen)
		}
	}
}
