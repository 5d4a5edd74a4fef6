package stage_test

import (
	"math"
	"math/rand/v2"
	"slices"
	"strconv"
	"strings"
	"testing"

	"outfitter/api"
	"outfitter/disk"
	"outfitter/stage"
)

// TestG1Long has arguments far beyond what can be needed.
func TestG1Long(t *testing.T) {
	huge := long(1 << 22)
	many := slices.Repeat(changes(`put a "x"`), 1<<20)
	t.Run("changes", func(t *testing.T) {
		if e := stage.CheckChanges(before(), many); e != api.ErrTwice {
			t.Error(e)
		}
		if p, e := stage.Plan(before(), huge, []api.Change{put("x", "")}); len(p) != 0 || e != api.ErrName {
			t.Error(len(p), e)
		}
		if s, e := stage.PrintJournal(api.Journal{Id: "a", Changes: many, Old: many}); s != "" || e != api.ErrLarge {
			t.Error(len(s), e)
		}
		for _, c := range []api.Change{put(huge, huge), remove(huge), {Kind: api.ChangeSet, Setting: api.Setting{Key: huge, Value: huge}}} {
			if e := stage.CheckChanges(before(), []api.Change{c}); e != api.ErrName {
				t.Error(e)
			}
		}
		if e := stage.CheckChanges(before(), []api.Change{put("stage/"+huge, "")}); e != api.ErrDenied {
			t.Error(e)
		}
		if m, r, e := stage.Try(before(), "t", some(), make([]api.Cut, 1<<20)); !isNone(m) || len(r) != 0 || e != api.ErrLarge {
			t.Error(len(r), e)
		}
	})
	for _, piece := range []string{"a", " ", "\n", "\"", "\xff", "drop a\n", "drop\n", "journal a\n", "changes 1\n"} {
		t.Run("ParseJournal", func(t *testing.T) {
			text := strings.Repeat(piece, 5<<20/len(piece))
			for _, head := range []string{"", "journal ", "journal a\nchanges 0\nold 0\nsum ", "journal a\nchanges " + strconv.Itoa(math.MaxInt) + "\n", "journal a\nchanges 1000000\n", "journal a\nchanges 1\nput a \""} {
				if j, e := stage.ParseJournal(head + text); e != api.ErrSyntax || !same(j, api.Journal{}) {
					t.Errorf("%q, %q: %d", head, piece, e)
				}
			}
		})
	}
	lines := strings.Repeat("drop a\n", 1<<20)
	for text, want := range map[string]api.Errno{
		"journal a\nchanges 1048576\n" + lines + "old 1048576\n" + lines: api.ErrLarge,
		"journal " + huge + "\nchanges 0\nold 0\n":                       api.ErrName,
		"journal a\nchanges 1\nput a \"" + huge + "\"\nold 0\n":          api.ErrLarge,
	} {
		t.Run("ParseJournal", func(t *testing.T) {
			if j, e := stage.ParseJournal(sealed(text)); e != want || !same(j, api.Journal{}) {
				t.Errorf("%.100q: %d", text, e)
			}
		})
	}
}

// TestG1LongLines has changes in lines that are longer than disk.ParseChanges takes.
func TestG1LongLines(t *testing.T) {
	huge, blanks := long(1<<22), strings.Repeat(" ", 1<<22)
	for line, want := range map[string]api.Errno{
		`put a "` + huge + `"`:                       api.ErrLarge,
		`putrun a "` + huge + `\n"`:                  api.ErrLarge,
		`put a "` + blanks + `"`:                     api.ErrLarge,
		`put / "` + huge + `"`:                       api.ErrName,
		`put ` + huge + ` ""`:                        api.ErrName,
		`put ` + huge + ` "` + huge + `"`:            api.ErrName,
		`set a "` + huge + `"`:                       api.ErrForm,
		`set ` + huge + ` "1"`:                       api.ErrName,
		`remove ` + huge:                             api.ErrName,
		`unset ` + huge:                              api.ErrName,
		`drop ` + huge:                               api.ErrName,
		`service ` + huge + ` a 0 1`:                 api.ErrName,
		`service a ` + huge + ` 0 1`:                 api.ErrName,
		`service ` + huge + ` ` + huge + ` 1 1`:      api.ErrName,
		`put a "` + huge:                             api.ErrSyntax,
		`put a ` + huge:                              api.ErrSyntax,
		`put a "` + huge + `\x41"`:                   api.ErrSyntax,
		`put a "` + long(api.MaxData) + `"` + huge:   api.ErrSyntax,
		`put a "` + long(api.MaxData-1) + `"` + huge: api.ErrSyntax,
		`put  "` + huge + `"`:                        api.ErrSyntax,
		`put a  "` + huge + `"`:                      api.ErrSyntax,
		`put ` + huge:                                api.ErrSyntax,
		`put ` + blanks:                              api.ErrSyntax,
		`set a "` + huge + `" `:                      api.ErrSyntax,
		`file a "` + huge + `"`:                      api.ErrSyntax,
		`remove a ` + huge:                           api.ErrSyntax,
		`remove  ` + huge:                            api.ErrSyntax,
		`remove ` + huge + ` `:                       api.ErrSyntax,
		`remove ` + blanks:                           api.ErrSyntax,
		`service a a 0 1` + huge:                     api.ErrSyntax,
		`service a a 0 1 ` + huge:                    api.ErrSyntax,
		`service a a 0 1 ` + blanks:                  api.ErrSyntax,
		`service a ` + huge + ` 0`:                   api.ErrSyntax,
		`service a a ` + huge + ` 0`:                 api.ErrSyntax,
		`service  ` + huge + ` 0 0`:                  api.ErrSyntax,
		huge:                                         api.ErrSyntax,
		blanks:                                       api.ErrSyntax,
		huge + ` a`:                                  api.ErrSyntax,
	} {
		what := line[:8] + ".." + line[len(line)-8:]
		line += "\n"
		for _, text := range []string{"changes 1\n" + line + "old 0\n", "changes 0\nold 1\n" + line, "changes 2\n" + line + "drop A\nold 0\n"} {
			j, e := stage.ParseJournal(sealed("journal a\n" + text))
			isJournal(t, what, j, e, api.Journal{}, want)
		}
		// As disk.ParseChanges has it, as far as it reads such lines.
		if _, _, e := disk.ParseChanges(strings.NewReplacer(huge, huge[:1<<20], blanks, blanks[:1<<20]).Replace(line)); e != want {
			t.Error(what, e, want)
		}
	}
}

// TestG1Full has transactions as large as they can be, and as many cuts as there may be.
func TestG1Full(t *testing.T) {
	m := full(api.MaxFiles - 3)
	var l []api.Change
	for i := range 1400 {
		l = append(l, api.Change{Kind: api.ChangeSet, Setting: api.Setting{Key: numbered(i), Value: "x"}})
	}
	cuts := slices.Repeat([]api.Cut{{After: 25, Torn: true}}, 50)
	t.Run("Try", func(t *testing.T) {
		n, r, e := stage.Try(m, "t", l, cuts)
		if e != api.OK || len(r) != 51 || r[50] != api.WasAfter {
			t.Error(r, e)
		}
		isMachine(t, "full", n, with(m, l...))
	})
	// A machine of stage files alone, all of which go.
	for i := range m.Files {
		m.Files[i].Path = "stage/" + m.Files[i].Path
	}
	t.Run("Try", func(t *testing.T) {
		n, r, e := stage.Try(m, "t", l[:1], cuts[:20])
		if e != api.OK || len(r) != 21 || r[20] != api.WasBefore {
			t.Error(r, e)
		}
		m.Files = nil
		isMachine(t, "stage files", n, m)
	})
	// As many changes as a journal can have.
	text := "journal a\nchanges 7000\n" + strings.Repeat("drop a\n", 7000) + "old 2000\n" + strings.Repeat("drop a\n", 2000)
	d := newDisk(t, with(full(api.MaxFiles-3), put("stage/journal", sealed(text))))
	t.Run("Recover", func(t *testing.T) {
		if id, was, e := stage.Recover(d); id != "a" || was != api.WasAfter || e != api.OK {
			t.Error(id, was, e)
		}
	})
}

// TestG1Chance has texts made by chance: what is read is printed again just so, else it is zero.
func TestG1Chance(t *testing.T) {
	l := strings.Split("drop a|drop A|put a \"\"|put / \"x\"|set a \"\\n\"|set a \"1\"|remove a|unset stage/x", "|")
	odd := strings.Split("journal a\n|changes 0\n|old 0\n|\n| |0|\"|drop\n|put a\n", "|")
	rnd := rand.New(rand.NewPCG(9, 10))
	section := func(word string) string {
		text := word + strconv.Itoa(rnd.IntN(3)) + "\n"
		for range rnd.IntN(3) {
			text += l[rnd.IntN(len(l))] + "\n"
		}
		return text
	}
	seen := map[api.Errno]int{}
	for range 100000 {
		text := "journal " + []string{"a", "a", "a", "A", ""}[rnd.IntN(5)] + "\n" + section("changes ") + section("old ")
		if at := rnd.IntN(len(text)); rnd.IntN(4) == 0 {
			text = text[:at] + odd[rnd.IntN(len(odd))] + text[at:]
		}
		if rnd.IntN(20) > 0 {
			text = sealed(text)
		} else {
			text += "sum 0123456789abcdef\n"
		}
		j, e := stage.ParseJournal(text)
		if s, f := stage.PrintJournal(j); e == api.OK && (s != text || f != api.OK) || e != api.OK && !same(j, api.Journal{}) {
			t.Fatalf("ParseJournal(%q): %v, %d", text, j, e)
		}
		seen[e]++
	}
	for _, e := range []api.Errno{api.OK, api.ErrSyntax, api.ErrSum, api.ErrName, api.ErrForm} {
		if seen[e] < 100 {
			t.Error("too few are so:", e, seen)
		}
	}
}

// TestG1Disks has changes of any kind.
func TestG1Disks(t *testing.T) {
	numbers := []int{math.MinInt, -1, 0, 1, 2, 3, 4, 5, 6, 7, math.MaxInt}
	texts := []string{"", "a", "stage", "stage/x", "stage/", "/", "\n", "a/b", "A", long(201)}
	rnd := rand.New(rand.NewPCG(11, 12))
	text := func() string { return texts[rnd.IntN(len(texts))] }
	for range 20000 {
		var l []api.Change
		for range rnd.IntN(4) {
			c := api.Change{Kind: numbers[rnd.IntN(len(numbers))]}
			if rnd.IntN(2) == 0 {
				c.File = api.File{Path: text(), Data: text(), Runs: rnd.IntN(2) == 0}
			}
			if rnd.IntN(2) == 0 {
				c.Setting = api.Setting{Key: text(), Value: text()}
			}
			if rnd.IntN(2) == 0 {
				c.Service = api.Service{Name: text(), Path: text()}
			}
			l = append(l, c)
		}
		m := before()
		if rnd.IntN(4) == 0 {
			m.Files = append(m.Files, api.File{Path: text(), Data: text()})
		}
		e := stage.CheckChanges(m, l)
		p, f := stage.Plan(m, text(), l)
		if e != api.OK && (f != e || len(p) != 0) {
			t.Fatal(l, e, f)
		}
		cut := api.Cut{After: numbers[rnd.IntN(len(numbers))]}
		if n, r, f := stage.Try(m, "t", l, []api.Cut{cut}); e != api.OK && (f != e || len(r) != 0 || !isNone(n)) {
			t.Fatal(l, e, f)
		}
		d, f := disk.NewDisk(m)
		if f != api.OK {
			continue
		}
		if f := stage.Run(d, "t", l); e != api.OK && (f != e || d.Writes() != 0) {
			t.Fatal(l, e, f)
		}
	}
}

// widen gives a list room for more, in which nothing stands.
func widen[T any](l []T) []T {
	wide := make([]T, len(l)+2)
	copy(wide, l)
	return wide[:len(l)]
}

// wipe writes zeros over a list, also behind it.
func wipe[T any](l []T) { clear(l[:cap(l)]) }

// isZero reports whether there is nothing behind a list, as far as it has room.
func isZero[T any](l []T) bool {
	behind := l[len(l):cap(l)]
	return same(behind, make([]T, len(behind)))
}

// roomy is a machine whose lists have room for more.
func roomy(m api.Machine) api.Machine {
	return api.Machine{Facts: widen(m.Facts), Files: widen(m.Files), Settings: widen(m.Settings), Services: widen(m.Services)}
}

func wipeMachine(m api.Machine) {
	wipe(m.Facts)
	wipe(m.Files)
	wipe(m.Settings)
	wipe(m.Services)
}

// TestG2 sees that arguments stay as they were, and that results do not lie in them, nor in each other.
func TestG2(t *testing.T) {
	want := with(before(), put("stage/x", ""), put("stage/journal", "torn"))
	m, l, old := roomy(want), widen(some()), widen(someOld())
	cuts := widen([]api.Cut{{After: 5}, {After: 2, Torn: true}})
	clean := func(what string) {
		t.Helper()
		if !disk.Same(m, want) || !slices.Equal(l, some()) || !slices.Equal(old, someOld()) || !slices.Equal(cuts, []api.Cut{{After: 5}, {After: 2, Torn: true}}) {
			t.Fatal(what, "changes arguments")
		}
		if !isZero(m.Facts) || !isZero(m.Files) || !isZero(m.Settings) || !isZero(m.Services) || !isZero(l) || !isZero(old) || !isZero(cuts) {
			t.Fatal(what, "writes behind arguments")
		}
	}
	for range 2 {
		n, _ := stage.Clean(m)
		isMachine(t, "Clean", n, before())
		wipeMachine(n)
		clean("Clean")
		p, e := stage.Plan(m, "t1", l)
		if len(p) != len(l)+6 || e != api.OK {
			t.Error(len(p), e)
		}
		wipe(p)
		clean("Plan")
		after, said, e := stage.Try(m, "t1", l, cuts)
		if !slices.Equal(said, []int{-1, -1, api.WasAfter}) || e != api.OK {
			t.Error(said, e)
		}
		wipeMachine(after)
		wipe(said)
		clean("Try")
		d := newDisk(t, m)
		if e := stage.Run(d, "t1", l); e != api.OK {
			t.Error(e)
		}
		clean("Run")
		text, e := stage.PrintJournal(api.Journal{Id: "t1", Changes: l, Old: old})
		if text != someJournal() || e != api.OK {
			t.Error(text, e)
		}
		clean("PrintJournal")
	}
	j, _ := stage.ParseJournal(someJournal())
	wipe(j.Changes)
	isList(t, "Old", j.Old, someOld())
	j, _, _ = stage.Look(with(want, put("stage/journal", someJournal())))
	wipe(j.Old)
	isList(t, "Changes", j.Changes, some())
	// A machine without stage files is not given back itself.
	bare := roomy(before())
	n, _ := stage.Clean(bare)
	wipeMachine(n)
	isMachine(t, "Clean", bare, before())
}

// TestG2Disk sees that a disk keeps nothing of what it was given.
func TestG2Disk(t *testing.T) {
	l := widen(some())
	d := cutAt(t, before(), 4, false)
	if e := stage.Run(d, "t1", l); e != api.ErrCut {
		t.Error(e)
	}
	wipe(l)
	d.On()
	if id, was, e := stage.Recover(d); id != "t1" || was != api.WasAfter || e != api.OK {
		t.Error(id, was, e)
	}
	isMachine(t, "Recover", d.Peek(), with(booted(before()), some()...))
}

func booted(m api.Machine) api.Machine {
	n, _ := disk.Boot(m)
	return n
}

// TestG3Empty sees that nil and empty lists are the same.
func TestG3Empty(t *testing.T) {
	empty := api.Machine{Facts: []api.Setting{}, Files: []api.File{}, Settings: []api.Setting{}, Services: []api.Service{}}
	for _, m := range []api.Machine{{}, empty} {
		if b, e := stage.Staged(m); b || e != api.OK {
			t.Error(b, e)
		}
		if n, e := stage.Clean(m); !isNone(n) || e != api.OK {
			t.Error(n, e)
		}
		if e := stage.CheckChanges(m, []api.Change{}); e != api.ErrEmpty {
			t.Error(e)
		}
		l := []api.Change{put("x", "")}
		if n, r, e := stage.Try(m, "t", l, []api.Cut{}); !slices.Equal(n.Files, []api.File{{Path: "x"}}) || !slices.Equal(r, []int{0}) || e != api.OK {
			t.Error(n, r, e)
		}
	}
	a, e := stage.PrintJournal(api.Journal{Id: "a", Changes: []api.Change{}, Old: []api.Change{}})
	b, f := stage.PrintJournal(api.Journal{Id: "a"})
	if a != b || e != api.OK || f != api.OK {
		t.Error(a, b, e, f)
	}
}
