package keep_test

import (
	"slices"
	"testing"

	"outfitter/api"
	"outfitter/disk"
	"outfitter/keep"
)

func TestP172State(t *testing.T) {
	m := machine(`
		fact os "x"
		file a "one"
		run b "one"
		file b.c/d ""
		set a "one"
		set k "-one"
		service a one 0 1
		service b one 1 0
	`)
	for _, c := range []struct {
		thing string
		want  int
	}{
		{`program a "one"`, api.HeldSame},
		{`shared a "one"`, api.HeldSame},
		{`text a "one"`, api.HeldSame},
		{`data a "one"`, api.HeldSame},
		{`program a "two"`, api.HeldChanged},
		{`program+ a "one"`, api.HeldChanged},
		{`program a "-one"`, api.HeldChanged},
		{`text a ""`, api.HeldChanged},
		{`text+ a "one"`, api.HeldChanged},
		{`text+ b "one"`, api.HeldSame},
		{`data b "one"`, api.HeldChanged},
		{`data b "rone"`, api.HeldChanged},
		{`data b.c/d ""`, api.HeldSame},
		{`data b.c ""`, api.HeldGone},
		{`program c "one"`, api.HeldGone},
		{`text k "one"`, api.HeldGone},
		{`setting a "one"`, api.HeldSame},
		{`setting a ""`, api.HeldChanged},
		{`setting k "one"`, api.HeldChanged},
		{`setting k "-one"`, api.HeldSame},
		{`setting b "one"`, api.HeldGone},
		{`setting os "x"`, api.HeldGone},
		{`service a "one"`, api.HeldSame},
		{`service+ a "one"`, api.HeldChanged},
		{`service a "two"`, api.HeldChanged},
		{`service+ b "one"`, api.HeldSame},
		{`service b "one"`, api.HeldChanged},
		{`service k "one"`, api.HeldGone},
	} {
		if state, e := keep.State(m, holding("app", item(c.thing))); state != c.want || e != api.OK {
			t.Errorf("State of %s: %d, %d, not %d", c.thing, state, e, c.want)
		}
	}
	right := holding("app", item(`text a "one"`))
	change := func(change func(*api.Held)) api.Held {
		h := right
		change(&h)
		return h
	}
	for i, c := range []struct {
		m    api.Machine
		h    api.Held
		want api.Errno
	}{
		{wrongMachine(), api.Held{}, api.ErrOrder},
		{wrongMachine(), right, api.ErrOrder},
		{m, api.Held{}, api.ErrName},
		{m, change(func(h *api.Held) { h.Owner = "A" }), api.ErrName},
		{m, change(func(h *api.Held) { h.Kind = 0 }), api.ErrKind},
		{m, change(func(h *api.Held) { h.Path = "?" }), api.ErrName},
		{m, change(func(h *api.Held) { h.Kind, h.Base = api.ItemData, "x" }), api.ErrForm},
		{m, change(func(h *api.Held) { h.Base = "x" }), api.ErrForm},
		{m, change(func(h *api.Held) { h.Sum = sum }), api.ErrForm},
	} {
		if state, e := keep.State(c.m, c.h); state != 0 || e != c.want {
			t.Errorf("State %d: %d, %d, not %d", i, state, e, c.want)
		}
	}
}

func TestP172Audit(t *testing.T) {
	k := keeping(`
		app program a/changed "one"
		app program a/gone "one"
		app program a/same "one"
		app text b/changed "one"
		app text b/gone "one"
		app text b/same "one"
		app data c/changed "one"
		app data c/gone "one"
		app shared d/changed "one"
		app shared d/gone "one"
		app shared d/same "one"
		app setting changed "one"
		app setting gone "one"
		app service changed "one"
		app service gone "one"
		app service same "one"
		base shared d/changed "one"
		base shared d/gone "one"
		base shared d/same "one"
		base service auto "one"
	`)
	m := machine(`
		file a/changed "two"
		file a/same "one"
		file b/changed "two"
		file b/same "one"
		file c/changed "two"
		run d/changed "one"
		file d/same "one"
		file stray "one"
		set changed "two"
		service auto one 1 0
		service changed two 0 0
		service same one 0 1
	`)
	want := []api.Fault{
		{Owner: "app", Path: "a/changed", Kind: api.ItemProgram, State: api.HeldChanged},
		{Owner: "app", Path: "a/gone", Kind: api.ItemProgram, State: api.HeldGone},
		{Owner: "app", Path: "b/gone", Kind: api.ItemText, State: api.HeldGone},
		{Owner: "app", Path: "d/changed", Kind: api.ItemShared, State: api.HeldChanged},
		{Owner: "app", Path: "d/gone", Kind: api.ItemShared, State: api.HeldGone},
		{Owner: "app", Path: "changed", Kind: api.ItemService, State: api.HeldChanged},
		{Owner: "app", Path: "gone", Kind: api.ItemService, State: api.HeldGone},
		{Owner: "base", Path: "d/changed", Kind: api.ItemShared, State: api.HeldChanged},
		{Owner: "base", Path: "d/gone", Kind: api.ItemShared, State: api.HeldGone},
		{Owner: "base", Path: "auto", Kind: api.ItemService, State: api.HeldChanged},
	}
	if l, e := keep.Audit(m, k); !slices.Equal(l, want) || e != api.OK {
		t.Error(l, e)
	}
	if l, e := keep.Audit(m, api.Keep{}); len(l) != 0 || e != api.OK {
		t.Error(l, e)
	}
	if l, e := keep.Audit(m, wrongKeep()); len(l) != 0 || e != api.ErrKind {
		t.Error(l, e)
	}
	if l, e := keep.Audit(wrongMachine(), wrongKeep()); len(l) != 0 || e != api.ErrOrder {
		t.Error(l, e)
	}
}

func TestP172Strays(t *testing.T) {
	m := machine(`
		file A ""
		file a-b/c ""
		file a/b/c ""
		run a/b/d ""
		file a/e ""
		file a/f ""
		file b ""
		file c ""
		file stage- ""
		file stage/journal "x"
		file stage/x/y ""
		file t/stage/x ""
		set s ""
		service t a 0 0
	`)
	k := keeping(`
		app data a/b/c "other"
		app text a/f ""
		app program gone ""
		app setting a/e ""
		app setting b ""
		app service c "c"
		base program stage/x/y ""
	`)
	for _, c := range []struct {
		dir  string
		want []string
		e    api.Errno
	}{
		{"", []string{"A", "a-b/c", "a/b/d", "a/e", "b", "c", "stage-", "t/stage/x"}, api.OK},
		{"a", []string{"a/b/d", "a/e"}, api.OK},
		{"a/b", []string{"a/b/d"}, api.OK},
		{"a/b/d", nil, api.OK},
		{"b", nil, api.OK},
		{"none", nil, api.OK},
		{"stage", nil, api.OK},
		{"stage/x", nil, api.OK},
		{"t", []string{"t/stage/x"}, api.OK},
		{"t/stage", []string{"t/stage/x"}, api.OK},
		{"a/", nil, api.ErrName},
		{"/", nil, api.ErrName},
		{"..", nil, api.ErrName},
		{longPath(201), nil, api.ErrName},
	} {
		if l, e := keep.Strays(m, k, c.dir); !slices.Equal(l, c.want) || e != c.e {
			t.Errorf("Strays below %q: %v, %d", c.dir, l, e)
		}
		if l, e := keep.Strays(m, wrongKeep(), c.dir); len(l) != 0 || e != api.ErrKind {
			t.Errorf("Strays below %q of what is no keep: %v, %d", c.dir, l, e)
		}
		if l, e := keep.Strays(wrongMachine(), wrongKeep(), c.dir); len(l) != 0 || e != api.ErrOrder {
			t.Errorf("Strays below %q of what is no machine: %v, %d", c.dir, l, e)
		}
	}
	all, _ := disk.Below(m, "a")
	if l, e := keep.Strays(m, api.Keep{}, "a"); !slices.Equal(l, all) || e != api.OK {
		t.Error(l, e)
	}
	// A file `stage` is no stage file.
	if l, e := keep.Strays(machine(`file stage ""`), k, ""); !slices.Equal(l, []string{"stage"}) || e != api.OK {
		t.Error(l, e)
	}
}
