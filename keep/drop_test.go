package keep_test

import (
	"strings"
	"testing"

	"outfitter/api"
	"outfitter/keep"
)

// TestP174Drop has for each kind a thing that is there as it was brought, one that was changed, and one that is gone.
func TestP174Drop(t *testing.T) {
	for _, c := range []struct {
		kind, how     string
		same, changed string // what becomes of them
		left          string // the note
	}{
		{kind: "program", same: "remove same", changed: "remove changed"},
		{kind: "program", how: "force all", same: "remove same", changed: "remove changed"},
		{kind: "shared", same: "remove same", left: "left changed"},
		{kind: "shared", how: "all", same: "remove same", left: "left changed"},
		{kind: "shared", how: "force", same: "remove same", changed: "remove changed"},
		{kind: "text", same: "remove same", left: "left changed"},
		{kind: "text", how: "force", same: "remove same", left: "left changed"},
		{kind: "text", how: "all", same: "remove same", changed: "remove changed"},
		{kind: "data", same: "remove same", left: "left changed"},
		{kind: "data", how: "force", same: "remove same", left: "left changed"},
		{kind: "data", how: "all", same: "remove same", changed: "remove changed"},
		{kind: "setting", same: "unset same", left: "left changed"},
		{kind: "setting", how: "force", same: "unset same", left: "left changed"},
		{kind: "setting", how: "all", same: "unset same", changed: "unset changed"},
		{kind: "service", same: "drop same", changed: "drop changed"},
		{kind: "service", how: "force all", same: "drop same", changed: "drop changed"},
	} {
		t.Run(c.kind+" "+c.how, func(t *testing.T) {
			m := machine(`
				file changed "x"
				file others "one"
				file same "one"
				set changed "x"
				set others "one"
				set same "one"
				service changed one 1 0
				service others one 0 1
				service same one 0 1
			`)
			const others = `
				a data others "one"
				a setting others "one"
				b service others "one"
			`
			own := strings.ReplaceAll(`
				app KIND changed "one"
				app KIND gone "one"
				app KIND same "one"
			`, "KIND", c.kind)
			k := sorted(keeping(others + own).Held)
			r, e := keep.Drop(m, k, "app", manner(c.how))
			if e != api.OK {
				t.Fatal("error", e)
			}
			isResult(t, "Drop", r, api.Result{Changes: changes(c.changed + "\n" + c.same), Keep: keeping(others), Notes: notes(c.left)})
			does(t, m, r, e)
		})
	}
}

// TestP174Shared has files that several owners hold.
func TestP174Shared(t *testing.T) {
	for _, c := range []struct {
		m, k, how, changes, notes string
	}{
		{m: `file a "one"`, k: `b shared a "one"`},
		{m: `file a "one"`, k: `b shared a "one"`, how: "force all"},
		{m: `file a "x"`, k: `b shared a "one"`},
		{m: `file a "x"`, k: `b shared a "one"`, how: "force all"},
		{m: `file a "one"`, k: `a shared a "one"` + "\n" + `b shared a "one"`, how: "force"},
		{m: ``, k: `b shared a "one"`},
		{m: `file a "one"`, k: `b shared b "one"` + "\n" + `b setting a "one"` + "\n" + `b service a "one"`, changes: `remove a`},
		{m: `run a "one"`, k: `b shared b "one"`, notes: `left a`},
	} {
		k := sorted(keeping(c.k + "\n" + `app shared a "one"`).Held)
		r, e := keep.Drop(machine(c.m), k, "app", manner(c.how))
		if e != api.OK {
			t.Fatal(c, e)
		}
		isResult(t, c, r, api.Result{Changes: changes(c.changes), Keep: keeping(c.k), Notes: notes(c.notes)})
	}
}

// TestP174Order has things of all kinds, which go in the order of the keep.
func TestP174Order(t *testing.T) {
	m := machine(`
		file bin/app "one"
		file etc/conf "a\nb\n"
		file lib/x "x"
		file var/app "x"
		set size "x"
		service appd bin/app 0 1
	`)
	k := some()
	r, e := keep.Drop(m, k, "app", api.Manner{})
	want := api.Result{
		Changes: changes(`remove bin/app` + "\n" + `remove etc/conf` + "\n" + `drop appd`),
		Keep:    api.Keep{Held: k.Held[6:]},
		Notes:   notes(`left var/app` + "\n" + `left size`),
	}
	isResult(t, e, r, want)
	r, e = keep.Drop(m, k, "app", manner("all"))
	want.Changes = changes(`remove bin/app` + "\n" + `remove etc/conf` + "\n" + `remove var/app` + "\n" + `unset size` + "\n" + `drop appd`)
	want.Notes = nil
	isResult(t, e, r, want)
	r, e = keep.Drop(m, k, "base", api.Manner{})
	isResult(t, e, r, api.Result{Keep: api.Keep{Held: append(k.Held[:6:6], k.Held[11])}})
	// The last one takes the shared file away.
	r, e = keep.Drop(m, api.Keep{Held: k.Held[11:]}, "c.d", api.Manner{})
	isResult(t, e, r, api.Result{Changes: changes(`remove lib/x`)})
}

func TestP174Errors(t *testing.T) {
	for i, c := range []struct {
		m     api.Machine
		k     api.Keep
		owner string
		want  api.Errno
	}{
		{wrongMachine(), wrongKeep(), "?", api.ErrOrder},
		{api.Machine{}, wrongKeep(), "?", api.ErrKind},
		{api.Machine{}, api.Keep{}, "?", api.ErrName},
		{api.Machine{}, some(), "", api.ErrName},
		{api.Machine{}, some(), "App", api.ErrName},
		{api.Machine{}, some(), "ap", api.ErrNone},
		{api.Machine{}, some(), "c", api.ErrNone},
		{api.Machine{}, api.Keep{}, "app", api.ErrNone},
	} {
		for _, how := range []string{"", "force all"} {
			if r, e := keep.Drop(c.m, c.k, c.owner, manner(how)); e != c.want || !isNothing(r) {
				t.Errorf("Drop %d: %v, %d, not %d", i, r, e, c.want)
			}
		}
	}
}
