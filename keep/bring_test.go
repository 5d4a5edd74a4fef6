package keep_test

import (
	"strings"
	"testing"

	"outfitter/api"
	"outfitter/keep"
)

// bringings are of the owner `app`.
type bringing struct {
	what    string
	m, k, l string
	how     string
	changes string
	notes   string
}

func (c bringing) test(t *testing.T) {
	t.Run(c.what, func(t *testing.T) {
		t.Helper()
		m, k, l := machine(c.m), keeping(c.k), items(c.l)
		r, e := keep.Bring(m, k, "app", l, manner(c.how))
		if e != api.OK {
			t.Fatal("error", e)
		}
		isResult(t, c.what, r, api.Result{Changes: changes(c.changes), Keep: behind(k, "app", l), Notes: notes(c.notes)})
		does(t, m, r, e)
	})
}

func TestP173Program(t *testing.T) {
	for _, kind := range []string{"program", "shared"} {
		for _, c := range []bringing{
			{
				what:    "nothing is there",
				l:       `KIND+ b "one"` + "\n" + `KIND a ""`,
				changes: `putrun b "one"` + "\n" + `put a ""`,
			}, {
				what: "it is there, and nobody holds it",
				m:    `run a "one"`,
				l:    `KIND+ a "one"`,
			}, {
				what:    "nobody holds what is there",
				m:       `run a "one"`,
				l:       `KIND a "one"`,
				how:     "force",
				changes: `put a "one"`,
			}, {
				what: "it is there, as it was brought",
				m:    `file a "one"`,
				k:    `app KIND a "one"`,
				l:    `KIND a "one"`,
			}, {
				what:    "it is there, as it was brought, and there is a new one",
				m:       `file a "one"`,
				k:       `app KIND a "one"`,
				l:       `KIND+ a "one"`,
				changes: `putrun a "one"`,
			}, {
				what:    "it was changed",
				m:       `run a "one"`,
				k:       `app KIND a "one"`,
				l:       `KIND a "one"`,
				changes: `put a "one"`,
				notes:   `replaced a`,
			}, {
				what:    "it was changed, and there is a new one",
				m:       `file a "x"`,
				k:       `app KIND a "one"`,
				l:       `KIND a "two"`,
				changes: `put a "two"`,
				notes:   `replaced a`,
			}, {
				what: "it was changed to the new one",
				m:    `file a "two"`,
				k:    `app KIND a "one"`,
				l:    `KIND a "two"`,
			}, {
				what:    "it is gone",
				k:       `app KIND a "one"`,
				l:       `KIND a "one"`,
				changes: `put a "one"`,
			}, {
				what:    "it is gone, and there is a new one",
				k:       `app KIND a "one"`,
				l:       `KIND a "two"`,
				how:     "all",
				changes: `put a "two"`,
			},
		} {
			c.k, c.l = strings.ReplaceAll(c.k, "KIND", kind), strings.ReplaceAll(c.l, "KIND", kind)
			c.test(t)
		}
	}
	for _, c := range []bringing{
		{
			what: "another one has it as well",
			m:    `file a "one"`,
			k:    `base shared a "one"`,
			l:    `shared a "one"`,
		}, {
			what:    "another one has it as well, and it was changed",
			m:       `run a "one"`,
			k:       `base shared a "one"`,
			l:       `shared a "one"`,
			changes: `put a "one"`,
		}, {
			what:    "both have it, and it was changed",
			m:       `file a "x"`,
			k:       `app shared a "one"` + "\n" + `base shared a "one"`,
			l:       `shared a "one"`,
			changes: `put a "one"`,
			notes:   `replaced a`,
		}, {
			what:    "it was a shared file, and is a program",
			m:       `file a "one"`,
			k:       `app shared a "one"`,
			l:       `program a "one"`,
			changes: `remove a` + "\n" + `put a "one"`,
		}, {
			what:    "it was a shared file that was changed, and is a program",
			m:       `file a "x"`,
			k:       `app shared a "one"`,
			l:       `program a "two"`,
			changes: `put a "two"`,
			notes:   `left a`,
		}, {
			what:    "it was a shared file that was changed, and is a program, by force",
			m:       `file a "x"`,
			k:       `app shared a "one"`,
			l:       `program a "two"`,
			how:     "force",
			changes: `remove a` + "\n" + `put a "two"`,
		}, {
			what:    "it was a program that was changed, and is a shared file",
			m:       `file a "x"`,
			k:       `app program a "one"`,
			l:       `shared a "one"`,
			changes: `remove a` + "\n" + `put a "one"`,
		}, {
			what:    "it was data, which was changed",
			m:       `file a "x"`,
			k:       `app data a "one"`,
			l:       `program a "one"`,
			changes: `put a "one"`,
			notes:   `left a`,
		}, {
			what:  "it was a text, which was changed to the program",
			m:     `file a "x"`,
			k:     `app text a "one"`,
			l:     `program a "x"`,
			notes: `left a`,
		},
	} {
		c.test(t)
	}
}

func TestP173Service(t *testing.T) {
	for _, c := range []bringing{
		{
			what:    "nothing is there",
			l:       `service+ b "one"` + "\n" + `service a "one"`,
			changes: `service b one 1 0` + "\n" + `service a one 0 0`,
		}, {
			what: "it is there, on",
			m:    `service a one 0 1`,
			l:    `service a "one"`,
		}, {
			what:    "another one is there, on, that nobody holds",
			m:       `service a two 0 1`,
			l:       `service a "one"`,
			changes: `service a one 0 1`,
		}, {
			what:    "another one is there, off, that nobody holds",
			m:       `service a one 1 0`,
			l:       `service a "one"`,
			changes: `service a one 0 0`,
		}, {
			what:    "as it was brought, on",
			m:       `service a one 0 1`,
			k:       `app service a "one"`,
			l:       `service+ a "two"`,
			changes: `service a two 1 1`,
		}, {
			what:    "changed, on",
			m:       `service a one 1 1`,
			k:       `app service a "one"`,
			l:       `service a "two"`,
			changes: `service a two 0 1`,
			notes:   `replaced a`,
		}, {
			what:    "changed, off",
			m:       `service a three 0 0`,
			k:       `app service a "one"`,
			l:       `service a "one"`,
			changes: `service a one 0 0`,
			notes:   `replaced a`,
		}, {
			what: "changed to the new one",
			m:    `service a two 0 1`,
			k:    `app service a "one"`,
			l:    `service a "two"`,
		}, {
			what:    "gone",
			k:       `app service a "one"`,
			l:       `service+ a "one"`,
			changes: `service a one 1 0`,
		},
	} {
		c.test(t)
	}
}

func TestP173Text(t *testing.T) {
	for _, c := range []bringing{
		{
			what:    "nothing is there",
			l:       `text+ b "one"` + "\n" + `text a ""`,
			changes: `putrun b "one"` + "\n" + `put a ""`,
		}, {
			what:    "it is gone",
			k:       `app text a "one"`,
			l:       `text a "one"`,
			changes: `put a "one"`,
			notes:   `again a`,
		}, {
			what:    "it is gone, and there is a new one",
			k:       `app text a "one"`,
			l:       `text+ a "two"`,
			changes: `putrun a "two"`,
			notes:   `again a`,
		}, {
			what:    "it was data, and is gone",
			k:       `app data a "one"`,
			l:       `text a "one"`,
			changes: `put a "one"`,
		}, {
			what:    "it was a program",
			m:       `file a "x"`,
			k:       `app program a "one"`,
			l:       `text a "two"`,
			changes: `remove a` + "\n" + `put a "two"`,
		}, {
			what: "the same is there, and nobody holds it",
			m:    `file a "one"`,
			l:    `text a "one"`,
		}, {
			what: "the same is there",
			m:    `file a "one"`,
			k:    `app text a "one"`,
			l:    `text a "one"`,
		}, {
			what: "it was changed to the new one",
			m:    `run a "two"`,
			k:    `app text a "one"`,
			l:    `text+ a "two"`,
		}, {
			what:    "there is a new one",
			m:       `file a "one"`,
			k:       `app text a "one"`,
			l:       `text a "two"`,
			changes: `put a "two"`,
		}, {
			what:    "the new one runs",
			m:       `file a "one"`,
			k:       `app text a "one"`,
			l:       `text+ a "one"`,
			changes: `putrun a "one"`,
		}, {
			what: "it was changed, and there is nothing new",
			m:    `file a "x"`,
			k:    `app text a "one"`,
			l:    `text a "one"`,
		}, {
			what: "it was made to run, and there is nothing new",
			m:    `run a "one"`,
			k:    `app text a "one"`,
			l:    `text a "one"`,
		}, {
			what: "it was changed, and the new one has the same Data, but runs",
			m:    `file a "x"`,
			k:    `app text a "one"`,
			l:    `text+ a "one"`,
		}, {
			what:    "it was changed, and there is a new one",
			m:       `file a "A\nb\nc\n"`,
			k:       `app text a "a\nb\nc\n"`,
			l:       `text a "a\nb\nC\n"`,
			changes: `put a "A\nb\nC\n"`,
			notes:   `merged a`,
		}, {
			what:    "it was changed, and there is a new one that runs",
			m:       `file a "a\nB\nc\n"`,
			k:       `app text a "a\nb\nc\n"`,
			l:       `text+ a "a\nb\nc\nd\n"`,
			changes: `putrun a "a\nB\nc\nd\n"`,
			notes:   `merged a`,
		}, {
			what:    "it was changed, and made to run, and there is a new one",
			m:       `run a "A\nb\nc\n"`,
			k:       `app text a "a\nb\nc\n"`,
			l:       `text a "a\nb\n"`,
			changes: `put a "A\nb\n"`,
			notes:   `merged a`,
		}, {
			what:    "it was made to run, and there is a new one",
			m:       `run a "one"`,
			k:       `app text a "one"`,
			l:       `text a "two"`,
			changes: `put a "two"`,
			notes:   `merged a`,
		}, {
			what:    "the user has had all that is new, and more",
			m:       `file a "a\nb\nc\n"`,
			k:       `app text a "b\n"`,
			l:       `text a "b\nc\n"`,
			changes: `put a "a\nb\nc\n"`,
			notes:   `merged a`,
		}, {
			what:    "both have changed a line",
			m:       `run a "a\nB\nc\n"`,
			k:       `app text a "a\nb\nc\n"`,
			l:       `text a "a\nbb\nc\n"`,
			changes: `put a.new "a\nbb\nc\n"`,
			notes:   `clash a`,
		}, {
			what:    "both have changed a line, and the new one runs",
			m:       `file a "x"`,
			k:       `app text a "one"`,
			l:       `text+ a "two"`,
			changes: `putrun a.new "two"`,
			notes:   `clash a`,
		}, {
			what:    "nobody holds what is there",
			m:       `file a "x"`,
			l:       `text+ a "one"`,
			changes: `putrun a.new "one"`,
			notes:   `clash a`,
		}, {
			what:    "nobody holds what is there, by force",
			m:       `file a "x"`,
			l:       `text a "one"`,
			how:     "force all",
			changes: `put a.new "one"`,
			notes:   `clash a`,
		}, {
			what:    "it was data, which was changed",
			m:       `file a "x"`,
			k:       `app data a "one"`,
			l:       `text a "one"`,
			changes: `put a.new "one"`,
			notes:   `left a` + "\n" + `clash a`,
		}, {
			what:    "it was data, which was changed, and all goes",
			m:       `file a "x"`,
			k:       `app data a "one"`,
			l:       `text a "one"`,
			how:     "all",
			changes: `remove a` + "\n" + `put a "one"`,
		}, {
			what:  "it was data, which was changed to the text",
			m:     `file a "x"`,
			k:     `app data a "one"`,
			l:     `text a "x"`,
			notes: `left a`,
		},
	} {
		c.test(t)
	}
}

// TestP173Beside sees where the new Data of a text is put.
func TestP173Beside(t *testing.T) {
	const clash = `file a "x"` + "\n"
	for _, c := range []bringing{
		{
			what:  "something is there",
			m:     clash + `file a.new "y"`,
			l:     `text a "one"`,
			notes: `clash a`,
		}, {
			what:  "the same is there",
			m:     clash + `run a.new "one"`,
			l:     `text a "one"`,
			notes: `clash a`,
		}, {
			what:  "something is below it",
			m:     clash + `file a.new/b/c ""`,
			l:     `text a "one"`,
			notes: `clash a`,
		}, {
			what:    "something is beside it",
			m:       clash + `file a.new-/b ""` + "\n" + `file a.new.b ""` + "\n" + `file b ""` + "\n" + `set a.new "x"` + "\n" + `set a.new/b "x"` + "\n" + `service a.new b 0 0`,
			l:       `text a "one"`,
			changes: `put a.new "one"`,
			notes:   `clash a`,
		}, {
			what:    "an item that comes later has this place",
			m:       clash,
			l:       `text a "one"` + "\n" + `program+ a.new "two"`,
			changes: `putrun a.new "two"`,
			notes:   `clash a`,
		}, {
			what:    "an item that came before has this place",
			m:       clash,
			l:       `data a.new "two"` + "\n" + `text a "one"`,
			changes: `put a.new "two"`,
			notes:   `clash a`,
		}, {
			what:    "a setting and a service have this name",
			m:       clash,
			l:       `setting a.new "s"` + "\n" + `service a.new "b"` + "\n" + `text a "one"`,
			changes: `set a.new "s"` + "\n" + `service a.new b 0 0` + "\n" + `put a.new "one"`,
			notes:   `clash a`,
		}, {
			what:    "an item that came before lies below it",
			m:       clash,
			l:       `data a.new/b "two"` + "\n" + `text a "one"`,
			changes: `put a.new/b "two"`,
			notes:   `clash a`,
		}, {
			what:    "what was there goes",
			m:       clash + `file a.new "y"`,
			k:       `app program a.new "z"`,
			l:       `text a "one"`,
			changes: `remove a.new` + "\n" + `put a.new "one"`,
			notes:   `clash a`,
		}, {
			what:    "what was below it goes",
			m:       clash + `file a.new/b "y"`,
			k:       `app program a.new/b "z"`,
			l:       `text a "one"`,
			changes: `remove a.new/b` + "\n" + `put a.new "one"`,
			notes:   `clash a`,
		}, {
			what:  "what was there stays",
			m:     clash + `file a.new "y"`,
			k:     `app data a.new "z"`,
			l:     `text a "one"`,
			notes: `left a.new` + "\n" + `clash a`,
		}, {
			what:    "another one holds what is gone there",
			m:       clash,
			k:       `base data a.new "z"`,
			l:       `text a "one"`,
			changes: `put a.new "one"`,
			notes:   `clash a`,
		}, {
			what:    "one beside the other",
			m:       clash + `file a.new "y"`,
			l:       `text a "one"` + "\n" + `text a.new "two"`,
			changes: `put a.new.new "two"`,
			notes:   `clash a` + "\n" + `clash a.new`,
		}, {
			what:    "a part of 36 bytes",
			m:       `file a/` + long(36) + ` "x"`,
			l:       `text a/` + long(36) + ` "one"`,
			changes: `put a/` + long(36) + `.new "one"`,
			notes:   `clash a/` + long(36),
		}, {
			what:  "a part of 37 bytes",
			m:     `file a/` + long(37) + ` "x"`,
			l:     `text a/` + long(37) + ` "one"`,
			notes: `clash a/` + long(37),
		}, {
			what:    "a path of 196 bytes",
			m:       `file ` + longPath(196) + ` "x"`,
			l:       `text ` + longPath(196) + ` "one"`,
			changes: `put ` + longPath(196) + `.new "one"`,
			notes:   `clash ` + longPath(196),
		}, {
			what:  "a path of 197 bytes",
			m:     `file ` + longPath(197) + ` "x"`,
			l:     `text ` + longPath(197) + ` "one"`,
			notes: `clash ` + longPath(197),
		},
	} {
		c.test(t)
	}
}

// TestP173MergeErrors has texts that delta.Merge refuses: then they clash.
func TestP173MergeErrors(t *testing.T) {
	lines := func(n int) string { return strings.Repeat(`a\n`, n) }
	for _, c := range []bringing{
		{
			what:    "so many lines",
			m:       `file a "B\n` + lines(998) + `c\n"`,
			k:       `app text a "b\n` + lines(998) + `c\n"`,
			l:       `text a "b\n` + lines(998) + `C\n"`,
			changes: `put a "B\n` + lines(998) + `C\n"`,
			notes:   `merged a`,
		}, {
			what:    "too many lines that are there",
			m:       `file a "x\n` + lines(1000) + `"`,
			k:       `app text a "a\n"`,
			l:       `text a "a\na\n"`,
			changes: `put a.new "a\na\n"`,
			notes:   `clash a`,
		}, {
			what:    "too many lines before",
			m:       `file a "a\n"`,
			k:       `app text a "` + lines(1001) + `"`,
			l:       `text a "b\n"`,
			changes: `put a.new "b\n"`,
			notes:   `clash a`,
		}, {
			what:    "too many new lines",
			m:       `file a "a\nb\n"`,
			k:       `app text a "a\n"`,
			l:       `text a "` + lines(1001) + `"`,
			changes: `put a.new "` + lines(1001) + `"`,
			notes:   `clash a`,
		}, {
			what:    "too much before",
			m:       `file a "x\n"`,
			k:       `app text a "` + long(api.MaxData+1) + `"`,
			l:       `text a "y\n"`,
			changes: `put a.new "y\n"`,
			notes:   `clash a`,
		}, {
			what:    "too much together",
			m:       `file a "a\n` + long(40000) + `"`,
			k:       `app text a "a\n"`,
			l:       `text a "` + long(40000) + `\na\n"`,
			changes: `put a.new "` + long(40000) + `\na\n"`,
			notes:   `clash a`,
		},
	} {
		c.test(t)
	}
}

func TestP173Data(t *testing.T) {
	for _, c := range []bringing{
		{
			what:    "nothing is there",
			l:       `data+ b "one"` + "\n" + `data a ""`,
			changes: `putrun b "one"` + "\n" + `put a ""`,
		}, {
			what:    "it is gone",
			k:       `app data a "one"`,
			l:       `data a "two"`,
			changes: `put a "two"`,
		}, {
			what: "it is there",
			m:    `file a "one"`,
			l:    `data a "one"`,
		}, {
			what: "another one is there, that nobody holds",
			m:    `file a "x"`,
			l:    `data a "one"`,
			how:  "force all",
		}, {
			what: "as it was brought",
			m:    `file a "one"`,
			k:    `app data a "one"`,
			l:    `data+ a "two"`,
		}, {
			what: "changed",
			m:    `run a "one"`,
			k:    `app data a "one"`,
			l:    `data a "two"`,
			how:  "force",
		}, {
			what:    "it was a text",
			m:       `file a "one"`,
			k:       `app text a "one"`,
			l:       `data a "two"`,
			changes: `remove a` + "\n" + `put a "two"`,
		}, {
			what:  "it was a text, which was changed",
			m:     `file a "x"`,
			k:     `app text a "one"`,
			l:     `data a "two"`,
			notes: `left a`,
		},
	} {
		c.test(t)
	}
}

func TestP173Setting(t *testing.T) {
	for _, c := range []bringing{
		{
			what:    "nothing is there",
			l:       `setting b "one"` + "\n" + `setting a ""`,
			changes: `set b "one"` + "\n" + `set a ""`,
		}, {
			what:    "it is gone",
			k:       `app setting a "one"`,
			l:       `setting a "two"`,
			changes: `set a "two"`,
		}, {
			what: "it is there, and nobody holds it",
			m:    `set a "one"`,
			l:    `setting a "one"`,
		}, {
			what:  "another one is there, that nobody holds",
			m:     `set a "x"`,
			l:     `setting a "one"`,
			how:   "force all",
			notes: `kept a`,
		}, {
			what: "as it was brought",
			m:    `set a "one"`,
			k:    `app setting a "one"`,
			l:    `setting a "one"`,
		}, {
			what:    "as it was brought, and there is a new one",
			m:       `set a "one"`,
			k:       `app setting a "one"`,
			l:       `setting a ""`,
			changes: `set a ""`,
		}, {
			what:  "changed",
			m:     `set a "x"`,
			k:     `app setting a "one"`,
			l:     `setting a "one"`,
			notes: `kept a`,
		}, {
			what:  "changed, and there is a new one",
			m:     `set a ""`,
			k:     `app setting a "one"`,
			l:     `setting a "two"`,
			notes: `kept a`,
		}, {
			what: "changed to the new one",
			m:    `set a "two"`,
			k:    `app setting a "one"`,
			l:    `setting a "two"`,
		},
	} {
		c.test(t)
	}
}

// TestP173Goes sees what becomes of what is not brought any more: it goes as in P174, ahead of what comes.
func TestP173Goes(t *testing.T) {
	const had = `
		app program bin/a "one"
		app data data/b "one"
		app shared lib/c "one"
		app shared lib/d "one"
		app text text/e "one"
		app setting f "one"
		app service g "one"
		base shared lib/c "one"
		base program other "one"
	`
	for _, c := range []bringing{
		{
			what:    "nothing is brought",
			m:       `file bin/a "one"` + "\n" + `file data/b "one"` + "\n" + `file lib/c "one"` + "\n" + `file lib/d "one"` + "\n" + `file other "one"` + "\n" + `file text/e "one"` + "\n" + `set f "one"` + "\n" + `service g one 0 1`,
			k:       had,
			changes: `remove bin/a` + "\n" + `remove data/b` + "\n" + `remove lib/d` + "\n" + `remove text/e` + "\n" + `unset f` + "\n" + `drop g`,
		}, {
			what:    "all was changed",
			m:       `file bin/a "x"` + "\n" + `file data/b "x"` + "\n" + `file lib/c "x"` + "\n" + `file lib/d "x"` + "\n" + `file other "x"` + "\n" + `file text/e "x"` + "\n" + `set f "x"` + "\n" + `service g x 0 1`,
			k:       had,
			changes: `remove bin/a` + "\n" + `drop g`,
			notes:   `left data/b` + "\n" + `left lib/d` + "\n" + `left text/e` + "\n" + `left f`,
		}, {
			what:    "all was changed, and goes",
			m:       `file bin/a "x"` + "\n" + `file data/b "x"` + "\n" + `file lib/c "x"` + "\n" + `file lib/d "x"` + "\n" + `file other "x"` + "\n" + `file text/e "x"` + "\n" + `set f "x"` + "\n" + `service g x 0 1`,
			k:       had,
			how:     "all",
			changes: `remove bin/a` + "\n" + `remove data/b` + "\n" + `remove text/e` + "\n" + `unset f` + "\n" + `drop g`,
			notes:   `left lib/d`,
		}, {
			what:    "all was changed, by force",
			m:       `file bin/a "x"` + "\n" + `file data/b "x"` + "\n" + `file lib/c "x"` + "\n" + `file lib/d "x"` + "\n" + `file other "x"` + "\n" + `file text/e "x"` + "\n" + `set f "x"` + "\n" + `service g x 0 1`,
			k:       had,
			how:     "force",
			changes: `remove bin/a` + "\n" + `remove lib/d` + "\n" + `drop g`,
			notes:   `left data/b` + "\n" + `left text/e` + "\n" + `left f`,
		}, {
			what: "all is gone",
			k:    had,
		}, {
			what:    "some comes again",
			m:       `file bin/a "one"` + "\n" + `file data/b "one"` + "\n" + `file lib/d "one"` + "\n" + `set f "one"` + "\n" + `service g one 0 1`,
			k:       had,
			l:       `service h "new"` + "\n" + `setting f "two"` + "\n" + `program bin/a "two"` + "\n" + `data new ""`,
			changes: `remove data/b` + "\n" + `remove lib/d` + "\n" + `drop g` + "\n" + `service h new 0 0` + "\n" + `set f "two"` + "\n" + `put bin/a "two"` + "\n" + `put new ""`,
		}, {
			what:    "a directory comes where a file was",
			m:       `file bin/a "one"`,
			k:       `app program bin/a "one"`,
			l:       `program bin/a/b "two"`,
			changes: `remove bin/a` + "\n" + `put bin/a/b "two"`,
		}, {
			what:    "a file comes where a directory was",
			m:       `file bin/a "one"` + "\n" + `file bin/b "x"`,
			k:       `app program bin/a "one"` + "\n" + `app program bin/b "one"`,
			l:       `text bin "two"`,
			changes: `remove bin/a` + "\n" + `remove bin/b` + "\n" + `put bin "two"`,
		}, {
			what:    "a setting and a service with the name of a file",
			m:       `file a "one"` + "\n" + `set a "one"` + "\n" + `service a one 0 0`,
			k:       `app program a "one"`,
			l:       `setting a "one"` + "\n" + `service a "one"`,
			changes: `remove a`,
		},
	} {
		c.test(t)
	}
}

func TestP173Errors(t *testing.T) {
	const m = `
		file a "one"
		file b "one"
		file dir/c "one"
		set s "one"
	`
	const k = `
		app program b "one"
		base program p "p"
		base shared q "q"
		base text r "r"
		base setting t "t"
		base service u "u"
	`
	wrong := api.Item{Kind: api.ItemText}
	l := func(text string, more ...api.Item) []api.Item { return append(items(text), more...) }
	for i, c := range []struct {
		l    []api.Item
		how  string
		want api.Errno
	}{
		{l("", wrong), "", api.ErrName},
		{l("", api.Item{}), "", api.ErrKind},
		{l(`data x ""`, api.Item{Kind: api.ItemSetting, Setting: api.Setting{Key: "a", Value: "\n"}}), "", api.ErrForm},
		{l("", api.Item{Kind: api.ItemData, File: api.File{Path: "x", Data: long(api.MaxData + 1)}}), "", api.ErrLarge},
		// Twice at one place.
		{l(`program x ""` + "\n" + `program x ""`), "", api.ErrTwice},
		{l(`program x ""` + "\n" + `text y ""` + "\n" + `data x ""`), "", api.ErrTwice},
		{l(`setting x ""` + "\n" + `setting x ""`), "", api.ErrTwice},
		{l(`service x "x"` + "\n" + `service x "y"`), "", api.ErrTwice},
		{l(`service x "x"` + "\n" + `setting x ""` + "\n" + `data x ""`), "", api.OK},
		// Another owner.
		{l(`program p "p"`), "force", api.ErrConflict},
		{l(`shared p "p"`), "", api.ErrConflict},
		{l(`data q "q"`), "", api.ErrConflict},
		{l(`shared q "x"`), "", api.ErrConflict},
		{l(`shared+ q "q"`), "", api.ErrConflict},
		{l(`shared q "q"`), "", api.OK},
		{l(`text r "r"`), "", api.ErrConflict},
		{l(`setting t "t"`), "", api.ErrConflict},
		{l(`service u "u"`), "force all", api.ErrConflict},
		{l(`setting u "u"` + "\n" + `service t "t"` + "\n" + `service p "p"` + "\n" + `data t ""`), "", api.OK},
		// Files of package stage.
		{l(`data stage ""`), "", api.ErrDenied},
		{l(`shared stage/x ""`), "force", api.ErrDenied},
		{l(`program stage/x/y ""`), "", api.ErrDenied},
		{l(`text stage/x ""`), "", api.ErrDenied},
		{l(`text stages ""` + "\n" + `data stage-/x ""` + "\n" + `data x/stage ""` + "\n" + `setting stage ""` + "\n" + `setting stage/x ""` + "\n" + `service stage "stage"`), "", api.OK},
		// What nobody holds is in the way.
		{l(`program a "two"`), "", api.ErrConflict},
		{l(`shared a "two"`), "all", api.ErrConflict},
		{l(`program+ a "one"`), "", api.ErrConflict},
		{l(`program a "two"`), "force", api.OK},
		{l(`program a "one"`), "", api.OK},
		{l(`text a "two"` + "\n" + `setting s "two"` + "\n" + `program b "two"`), "", api.OK},
		{l(`data a "two"` + "\n" + `text b "two"`), "", api.OK},
		{l(`service x "a"` + "\n" + `program s ""`), "", api.OK},
		// Apply.
		{l(`program a/x ""`), "force all", api.ErrConflict},
		{l(`data dir ""`), "", api.ErrConflict},
		{l(`data x/y ""` + "\n" + `data x ""`), "", api.ErrConflict},
		// The new Data of a comes where a directory would be.
		{l(`text a "two"` + "\n" + `data a.new/x ""`), "", api.ErrConflict},

		// The order within an item, and of items.
		{l(`data x ""`, items(`data x ""`)[0], api.Item{}), "", api.ErrTwice},
		{l(`data p ""`, api.Item{}), "", api.ErrConflict},
		{l(`data stage ""`, api.Item{}), "", api.ErrDenied},
		{l(`program a "two"`, api.Item{}), "", api.ErrKind},
		{l(`program a "two"` + "\n" + `data stage ""`), "", api.ErrDenied},
		{l(`program a "two"` + "\n" + `data x ""` + "\n" + `data x ""`), "", api.ErrTwice},
		{l(`program a/x ""` + "\n" + `program a "two"`), "", api.ErrConflict},
		{l(`data x ""`, api.Item{Kind: api.ItemData, File: api.File{Path: "x"}, Setting: api.Setting{Key: "x"}}), "", api.ErrForm},
		{l(`data stage ""` + "\n" + `data stage ""`), "", api.ErrDenied},
	} {
		r, e := keep.Bring(machine(m), keeping(k), "app", c.l, manner(c.how))
		if e != c.want || e != api.OK && !isNothing(r) {
			t.Errorf("Bring %d: %v, %d, not %d", i, r, e, c.want)
		}
	}
	// A file of package stage that another one holds.
	for want, k := range map[api.Errno]string{api.ErrConflict: `base data stage/x ""`, api.ErrDenied: `app data stage/x ""`} {
		if r, e := keep.Bring(api.Machine{}, keeping(k), "app", items(`data stage/x ""`), api.Manner{}); e != want || !isNothing(r) {
			t.Errorf("Bring: %v, %d, not %d", r, e, want)
		}
	}
	twice := items(`data p ""` + "\n" + `data p ""`)
	if r, e := keep.Bring(api.Machine{}, keeping(`base data p ""`), "app", twice, api.Manner{}); e != api.ErrConflict || !isNothing(r) {
		t.Error(r, e)
	}
}

// TestP173First has errors that come ahead of all that items have.
func TestP173First(t *testing.T) {
	bad := make([]api.Item, api.MaxHeld+1)
	for i, c := range []struct {
		m     api.Machine
		k     api.Keep
		owner string
		l     []api.Item
		want  api.Errno
	}{
		{wrongMachine(), wrongKeep(), "?", bad, api.ErrOrder},
		{api.Machine{}, wrongKeep(), "?", bad, api.ErrKind},
		{api.Machine{}, api.Keep{}, "?", bad, api.ErrName},
		{api.Machine{}, api.Keep{}, "", nil, api.ErrName},
		{api.Machine{}, api.Keep{}, "App", nil, api.ErrName},
		{api.Machine{}, api.Keep{}, "a/b", nil, api.ErrName},
		{api.Machine{}, api.Keep{}, "app", bad, api.ErrLarge},
		{api.Machine{}, api.Keep{}, "app", bad[1:], api.ErrKind},
		{api.Machine{}, api.Keep{}, "app", nil, api.OK},
	} {
		if r, e := keep.Bring(c.m, c.k, c.owner, c.l, api.Manner{}); e != c.want || !isNothing(r) {
			t.Errorf("Bring %d: %d, not %d", i, e, c.want)
		}
	}
}

// TestP173Large has machines and keeps that are full.
func TestP173Large(t *testing.T) {
	m, _, l := full("app", api.MaxFiles)
	if r, e := keep.Bring(m, api.Keep{}, "app", l, api.Manner{}); len(r.Changes) != 0 || len(r.Keep.Held) != api.MaxFiles || e != api.OK {
		t.Error(len(r.Changes), len(r.Keep.Held), e)
	}
	more := append(l, item(`data x ""`))
	if r, e := keep.Bring(m, api.Keep{}, "app", more, api.Manner{}); !isNothing(r) || e != api.ErrLarge {
		t.Error(e)
	}
	if r, e := keep.Bring(m, keeping(`app data n10000000 ""`), "app", more[1:], api.Manner{}); len(r.Changes) != 2 || e != api.OK {
		t.Error(e)
	}
	// A keep that others fill.
	m, k, l := full("base", api.MaxHeld)
	k.Held = k.Held[:api.MaxHeld-2]
	two := items(`setting a ""` + "\n" + `setting b ""`)
	if r, e := keep.Bring(m, k, "app", two, api.Manner{}); len(r.Changes) != 2 || len(r.Keep.Held) != api.MaxHeld || e != api.OK {
		t.Error(e)
	}
	three := append(two, item(`setting c ""`))
	if r, e := keep.Bring(m, k, "app", three, api.Manner{}); !isNothing(r) || e != api.ErrLarge {
		t.Error(e)
	}
	// Apply's errors are ahead of that.
	m.Files[0].Path = "a"
	if r, e := keep.Bring(m, k, "app", append(three, item(`data a/b ""`)), api.Manner{}); !isNothing(r) || e != api.ErrConflict {
		t.Error(e)
	}
	// As many items as there may be: only their owner holds them then.
	for i, x := range l {
		l[i] = api.Item{Kind: api.ItemData, File: api.File{Path: "x/" + x.File.Path}}
	}
	if r, e := keep.Bring(api.Machine{}, api.Keep{}, "app", l, api.Manner{}); !isNothing(r) || e != api.ErrLarge {
		t.Error(e)
	}
}
