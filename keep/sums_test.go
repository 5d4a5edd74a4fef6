package keep_test

import (
	"strings"
	"testing"

	"outfitter/api"
	"outfitter/disk"
	"outfitter/keep"
)

// Texts with the same sum behind a `-`: so things that are different are the same.
const (
	twinA = "d02b11006c7728c2"
	twinB = "384f2bbc7c214469"
)

// twins puts them in the place of A and B, where these are in quotes.
func twins(text string) string {
	return strings.NewReplacer(`"A"`, `"`+twinA+`"`, `"B"`, `"`+twinB+`"`).Replace(text)
}

func TestP171Same(t *testing.T) {
	if twinA == twinB || disk.SumOf("-"+twinA) != disk.SumOf("-"+twinB) || disk.SumOf("r"+twinA) == disk.SumOf("r"+twinB) {
		t.Fatal("the sums are wrong")
	}
	for _, c := range []bringing{
		{
			what: "nobody holds a program",
			m:    `file a "A"`,
			l:    `program a "B"`,
		}, {
			what:    "nobody holds a program that runs",
			m:       `run a "A"`,
			l:       `program+ a "B"`,
			how:     "force",
			changes: `putrun a "B"`,
		}, {
			what: "a shared file that was brought",
			m:    `file a "A"`,
			k:    `app shared a "A"` + "\n" + `base shared a "B"`,
			l:    `shared a "B"`,
		}, {
			what:    "a program that is not the same",
			m:       `file a "A"`,
			k:       `app program a "B"`,
			l:       `program a "two"`,
			changes: `put a "two"`,
		}, {
			what: "the same text",
			m:    `file a "A"`,
			k:    `app text a "one"`,
			l:    `text a "B"`,
		}, {
			what:    "a text as it was brought",
			m:       `file a "A"`,
			k:       `app text a "B"`,
			l:       `text a "two"`,
			changes: `put a "two"`,
		}, {
			what:    "the new Data of a text is not the Base",
			m:       `file a "x"`,
			k:       `app text a "A"`,
			l:       `text a "B"`,
			changes: `put a.new "B"`,
			notes:   `clash a`,
		}, {
			what: "the same setting",
			m:    `set a "A"`,
			l:    `setting a "B"`,
		}, {
			what:    "a setting as it was brought",
			m:       `set a "A"`,
			k:       `app setting a "B"`,
			l:       `setting a "two"`,
			changes: `set a "two"`,
		}, {
			what: "the same service",
			m:    `service a ` + twinA + ` 0 1`,
			l:    `service a "B"`,
		}, {
			what:    "things that go, as they were brought",
			m:       `file a "A"` + "\n" + `file b "A"` + "\n" + `file c "A"` + "\n" + `set d "A"`,
			k:       `app data a "B"` + "\n" + `app shared b "B"` + "\n" + `app text c "B"` + "\n" + `app setting d "B"`,
			changes: "remove a\nremove b\nremove c\nunset d",
		},
	} {
		c.m, c.k, c.l, c.changes = twins(c.m), twins(c.k), twins(c.l), twins(c.changes)
		c.test(t)
	}
	m := machine(twins(`file a "A"` + "\n" + `file b "x"` + "\n" + `set a "A"` + "\n" + `service a ` + twinA + ` 0 0`))
	k := keeping(twins(`app program a "B"` + "\n" + `app text b "B"` + "\n" + `app program c "B"` + "\n" + `app setting a "B"` + "\n" + `app service a "B"`))
	for i, want := range []int{api.HeldSame, api.HeldChanged, api.HeldGone, api.HeldSame, api.HeldSame} {
		if state, e := keep.State(m, k.Held[i]); state != want || e != api.OK {
			t.Error(i, state, e)
		}
	}
	if l, e := keep.Audit(m, k); len(l) != 1 || e != api.OK {
		t.Error(l, e)
	}
	r, e := keep.Repair(m, k, "app", items(twins(`program a "A"`+"\n"+`text b "A"`+"\n"+`program c "A"`+"\n"+`setting a "A"`+"\n"+`service a "A"`)))
	isResult(t, e, r, api.Result{Changes: changes(twins(`put c "A"`)), Keep: k})
	got, e := keep.Adopt(m, api.Keep{}, "app", items(twins(`program a "B"`+"\n"+`service a "B"`)))
	isKeep(t, e, got, keeping(twins(`app program a "B"`+"\n"+`app service a "B"`)))
	// A text of which only the sum is known.
	k = keeping(twins(`app text a "A"`))
	k.Held[0].Base = twinB
	if e := keep.Check(k); e != api.OK {
		t.Error(e)
	}
}
