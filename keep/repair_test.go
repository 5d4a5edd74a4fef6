package keep_test

import (
	"testing"

	"outfitter/api"
	"outfitter/keep"
)

func TestP175Repair(t *testing.T) {
	const all = `
		program bin/app "one"
		shared lib/x "one"
		text etc/conf "one"
		data var/app "one"
		setting size "one"
		service appd "bin/app"
	`
	const k = `
		app program bin/app "one"
		app text etc/conf "one"
		app shared lib/x "one"
		app data var/app "one"
		app setting size "one"
		app service appd "bin/app"
		base shared lib/x "one"
	`
	for _, c := range []struct{ what, m, l, changes string }{
		{
			what: "whole",
			m:    `file bin/app "one"` + "\n" + `file etc/conf "one"` + "\n" + `file lib/x "one"` + "\n" + `file var/app "one"` + "\n" + `set size "one"` + "\n" + `service appd bin/app 0 1`,
			l:    all,
		}, {
			what:    "gone",
			l:       all,
			changes: `put bin/app "one"` + "\n" + `put lib/x "one"` + "\n" + `put etc/conf "one"` + "\n" + `put var/app "one"` + "\n" + `set size "one"` + "\n" + `service appd bin/app 0 0`,
		}, {
			what:    "changed",
			m:       `file bin/app "x"` + "\n" + `file etc/conf "x"` + "\n" + `file lib/x ""` + "\n" + `file var/app "x"` + "\n" + `set size "x"` + "\n" + `service appd x 0 1`,
			l:       all,
			changes: `put bin/app "one"` + "\n" + `put lib/x "one"` + "\n" + `service appd bin/app 0 1`,
		}, {
			what:    "changed to run",
			m:       `run bin/app "one"` + "\n" + `run etc/conf "one"` + "\n" + `run lib/x "one"` + "\n" + `run var/app "one"` + "\n" + `service appd bin/app 1 0`,
			l:       all,
			changes: `put bin/app "one"` + "\n" + `put lib/x "one"` + "\n" + `set size "one"` + "\n" + `service appd bin/app 0 0`,
		}, {
			what: "nothing comes",
			m:    `file bin/app "x"`,
		}, {
			what:    "some comes, in this order",
			m:       `file lib/x "x"`,
			l:       `service appd "bin/app"` + "\n" + `shared lib/x "one"` + "\n" + `program bin/app "one"`,
			changes: `service appd bin/app 0 0` + "\n" + `put lib/x "one"` + "\n" + `put bin/app "one"`,
		}, {
			what:    "the same comes twice",
			m:       `file lib/x "x"`,
			l:       `shared lib/x "one"` + "\n" + `program bin/app "one"` + "\n" + `shared lib/x "one"` + "\n" + `program bin/app "one"`,
			changes: `put lib/x "one"` + "\n" + `put bin/app "one"`,
		},
	} {
		t.Run(c.what, func(t *testing.T) {
			m := machine(c.m)
			r, e := keep.Repair(m, keeping(k), "app", items(c.l))
			if e != api.OK {
				t.Fatal("error", e)
			}
			isResult(t, c.what, r, api.Result{Changes: changes(c.changes), Keep: keeping(k)})
			does(t, m, r, e)
		})
	}
	// One that runs, and a service that is begun with the machine.
	marked := keeping(`app program+ a "one"` + "\n" + `app service+ s "a"`)
	r, e := keep.Repair(machine(`file a "one"`+"\n"+`service s a 0 1`), marked, "app", items(`program+ a "one"`+"\n"+`service+ s "a"`))
	isResult(t, e, r, api.Result{Changes: changes(`putrun a "one"` + "\n" + `service s a 1 1`), Keep: marked})
}

func TestP175RepairErrors(t *testing.T) {
	m := machine(`file dir/x ""` + "\n" + `file stage/x ""`)
	k := keeping(`
		app data dir "one"
		app program gone "one"
		app shared lib/x "one"
		app text stage/y "one"
		app setting size "one"
		app service appd "bin/app"
		base shared lib/x "one"
		base shared lib/y "one"
	`)
	for i, c := range []struct {
		m     api.Machine
		k     api.Keep
		owner string
		l     []api.Item
		want  api.Errno
	}{
		{wrongMachine(), wrongKeep(), "?", make([]api.Item, 1), api.ErrOrder},
		{m, wrongKeep(), "?", make([]api.Item, 1), api.ErrKind},
		{m, api.Keep{}, "?", make([]api.Item, 1), api.ErrName},
		{m, k, "", nil, api.ErrName},
		{m, api.Keep{}, "app", make([]api.Item, 1), api.ErrNone},
		{m, k, "ap", nil, api.ErrNone},
		{m, k, "ap", make([]api.Item, 1), api.ErrNone},
		{m, k, "app", make([]api.Item, 1), api.ErrKind},
		{m, k, "app", []api.Item{{Kind: api.ItemSetting, Setting: api.Setting{Key: "none", Value: "\n"}}}, api.ErrForm},
		{m, k, "app", []api.Item{{Kind: api.ItemService, Service: api.Service{Name: "none", Path: "a", On: true}}}, api.ErrForm},
		{m, k, "app", items(`program none "one"`), api.ErrNone},
		{m, k, "app", items(`shared lib/y "one"`), api.ErrNone},
		{m, k, "app", items(`program lib/x "one"`), api.ErrNone},
		{m, k, "app", items(`data gone "one"`), api.ErrNone},
		{m, k, "app", items(`data gone "two"`), api.ErrNone},
		{m, k, "app", items(`data size "one"`), api.ErrNone},
		{m, k, "app", items(`setting appd "bin/app"`), api.ErrNone},
		{m, k, "app", items(`service size "one"`), api.ErrNone},
		{m, k, "app", items(`program gone "two"`), api.ErrSum},
		{m, k, "app", items(`program+ gone "one"`), api.ErrSum},
		{m, k, "app", items(`data dir "two"`), api.ErrSum},
		{m, k, "app", items(`setting size "two"`), api.ErrSum},
		{m, k, "app", items(`service appd "bin"`), api.ErrSum},
		{m, k, "app", items(`service+ appd "bin/app"`), api.ErrSum},
		{m, k, "app", items(`text stage/y "two"`), api.ErrSum},
		{m, k, "app", items(`data dir "one"`), api.ErrConflict},
		// Only bringing is denied.
		{m, k, "app", items(`text stage/y "one"`), api.OK},
		// The first bad one decides, but Apply comes behind all.
		{m, k, "app", append(items(`program gone "two"`), api.Item{}), api.ErrSum},
		{m, k, "app", append(items(`program none "two"`), api.Item{}), api.ErrNone},
		{m, k, "app", items(`data dir "one"` + "\n" + `program gone "two"`), api.ErrSum},
		{m, k, "app", items(`data dir "one"` + "\n" + `program none "one"`), api.ErrNone},
		{m, k, "app", append(items(`data dir "one"`), api.Item{}), api.ErrKind},
	} {
		if r, e := keep.Repair(c.m, c.k, c.owner, c.l); e != c.want || e != api.OK && !isNothing(r) {
			t.Errorf("Repair %d: %v, %d, not %d", i, r, e, c.want)
		}
	}
	// No room for what is gone.
	there, k, l := full("app", api.MaxFiles+1)
	if r, e := keep.Repair(there, k, "app", l); !isNothing(r) || e != api.ErrLarge {
		t.Error(e)
	}
	if r, e := keep.Repair(there, k, "app", l[:api.MaxFiles]); len(r.Changes) != 0 || len(r.Keep.Held) != len(l) || e != api.OK {
		t.Error(e)
	}
}

func TestP175Adopt(t *testing.T) {
	m := machine(`
		run bin/app "one"
		file etc/conf "one"
		file lib/x "one"
		file stage/x "one"
		file var/app "one"
		set size "one"
		service appd bin/app 0 1
	`)
	const base = `
		base shared lib/x "one"
		base data none "one"
	`
	for i, c := range []struct{ k, l string }{
		{``, ``},
		{``, `program+ bin/app "one"` + "\n" + `text etc/conf "one"` + "\n" + `shared lib/x "one"` + "\n" + `data var/app "one"` + "\n" + `setting size "one"` + "\n" + `service appd "bin/app"`},
		{``, `service appd "bin/app"` + "\n" + `setting size "one"` + "\n" + `data var/app "one"` + "\n" + `text etc/conf "one"` + "\n" + `program+ bin/app "one"` + "\n" + `shared lib/x "one"`},
		// What the user may change can be there otherwise.
		{``, `text+ etc/conf "two"` + "\n" + `data var/app "two"` + "\n" + `setting size "two"`},
		{``, `text etc/conf ""` + "\n" + `data+ bin/app ""`},
		{``, `data stage/x "one"`},
		// What was held before.
		{`app data gone "x"` + "\n" + `app setting size "x"`, `text etc/conf "one"`},
		{`app text etc/conf "x"` + "\n" + `app data gone "x"` + "\n" + `app setting size "x"`, `setting size "one"`},
		{`app text etc/conf "x"` + "\n" + `app data gone "x"` + "\n" + `app setting size "x"`, `program etc/conf "one"` + "\n" + `program var/app "one"`},
		{`app setting appd "x"` + "\n" + `app setting etc/conf "x"`, `service appd "bin/app"` + "\n" + `data etc/conf ""`},
	} {
		l := items(c.l)
		var stays []api.Held
		for _, h := range keeping(c.k).Held {
			replaced := false
			for _, x := range l {
				n := holding("app", x)
				replaced = replaced || max(n.Kind, api.ItemData) == max(h.Kind, api.ItemData) && n.Path == h.Path
			}
			if !replaced {
				stays = append(stays, h)
			}
		}
		for _, x := range l {
			stays = append(stays, holding("app", x))
		}
		for _, others := range []string{"", base} {
			k := sorted(keeping(c.k + "\n" + others).Held)
			got, e := keep.Adopt(m, k, "app", l)
			if e != api.OK {
				t.Error(i, e)
			}
			isKeep(t, i, got, sorted(append(keeping(others).Held, stays...)))
		}
	}
}

func TestP175AdoptErrors(t *testing.T) {
	m := machine(`
		file a "one"
		run b "one"
		file c "one"
		set s "one"
		service t a 0 1
	`)
	k := keeping(`
		app program b "x"
		base shared c "one"
		base setting s "one"
	`)
	twice := func(line string) []api.Item { return items(line + "\n" + line) }
	for i, c := range []struct {
		m     api.Machine
		k     api.Keep
		owner string
		l     []api.Item
		want  api.Errno
	}{
		{wrongMachine(), wrongKeep(), "?", make([]api.Item, 1), api.ErrOrder},
		{m, wrongKeep(), "?", make([]api.Item, 1), api.ErrKind},
		{m, k, "?", make([]api.Item, 1), api.ErrName},
		{m, k, "", nil, api.ErrName},
		{m, k, "app", make([]api.Item, 1), api.ErrKind},
		{m, k, "app", make([]api.Item, api.MaxHeld+1), api.ErrKind},
		{m, k, "app", []api.Item{{Kind: api.ItemData, File: api.File{Path: "a"}, Service: api.Service{On: true}}}, api.ErrForm},
		{m, k, "app", twice(`data a "one"`), api.ErrTwice},
		{m, k, "app", items(`data a "one"` + "\n" + `program a "two"`), api.ErrTwice},
		{m, k, "app", items(`data c "one"`), api.ErrConflict},
		{m, k, "app", items(`shared c "two"`), api.ErrConflict},
		{m, k, "app", items(`shared+ c "one"`), api.ErrConflict},
		{m, k, "app", items(`program c "one"`), api.ErrConflict},
		{m, k, "app", items(`shared c "one"`), api.OK},
		{m, k, "app", items(`setting s "one"`), api.ErrConflict},
		{m, k, "base", items(`setting s "one"`), api.OK},
		{m, k, "base", items(`data b "one"`), api.ErrConflict},
		{m, k, "app", items(`data none ""`), api.ErrNone},
		{m, k, "app", items(`program none ""`), api.ErrNone},
		{m, k, "app", items(`text s "one"`), api.ErrNone},
		{m, k, "app", items(`setting a "one"`), api.ErrNone},
		{m, k, "app", items(`service s "one"`), api.ErrNone},
		{m, k, "app", items(`program a "two"`), api.ErrSum},
		{m, k, "app", items(`shared+ a "one"`), api.ErrSum},
		{m, k, "app", items(`program b "one"`), api.ErrSum},
		{m, k, "app", items(`program+ b "one"`), api.OK},
		{m, k, "app", items(`service t "b"`), api.ErrSum},
		{m, k, "app", items(`service+ t "a"`), api.ErrSum},
		{m, k, "app", items(`service t "a"`), api.OK},
		// What the owner held gone is gone.
		{m, keeping(`app program none ""`), "app", items(`program none ""`), api.ErrNone},
		// The order within an item, and of items.
		{m, keeping(`base data none ""`), "app", items(`data none ""`), api.ErrConflict},
		{m, k, "app", append(items(`program a "two"`), api.Item{}), api.ErrSum},
		{m, k, "app", append(items(`data none ""`), api.Item{}), api.ErrNone},
		{m, k, "app", append(items(`data c ""`), api.Item{}), api.ErrConflict},
		{m, k, "app", append(twice(`data a ""`), api.Item{}), api.ErrTwice},
		{m, k, "app", append(items(`data a ""`), api.Item{}, items(`data a ""`)[0]), api.ErrKind},
		{m, k, "app", append(items(`data a ""`), api.Item{Kind: api.ItemData, File: api.File{Path: "a"}, Setting: api.Setting{Key: "a"}}), api.ErrForm},
	} {
		if got, e := keep.Adopt(c.m, c.k, c.owner, c.l); e != c.want || e != api.OK && len(got.Held) != 0 {
			t.Errorf("Adopt %d: %v, %d, not %d", i, got, e, c.want)
		}
	}
	// A keep that others fill.
	there, k, l := full("base", api.MaxHeld)
	k.Held = k.Held[:api.MaxHeld-2]
	there.Files = there.Files[:3]
	for n, want := range map[int]api.Errno{2: api.OK, 3: api.ErrLarge} {
		var own []api.Item
		m := there
		for i := range n {
			own = append(own, api.Item{Kind: api.ItemData, File: api.File{Path: "x" + l[i].File.Path}})
			m.Files = append(m.Files, own[i].File)
		}
		got, e := keep.Adopt(m, k, "app", own)
		if e != want || len(got.Held) != map[api.Errno]int{api.OK: api.MaxHeld}[e] {
			t.Error(n, len(got.Held), e)
		}
	}
}
