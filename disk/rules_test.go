package disk_test

import (
	"math/rand/v2"
	"slices"
	"strings"
	"testing"

	"outfitter/api"
	"outfitter/disk"
)

// TestG1Long gives long texts to all that takes one.
func TestG1Long(t *testing.T) {
	for _, piece := range []string{"0", " ", "\"", "\\", "\n", "\\x", "/", "a/", "\xff", "fact a \"\"\n", "drop a\n"} {
		text := strings.Repeat(piece, 4<<20/len(piece)+1)
		if _, e := disk.Unquote(text); e != api.ErrSyntax {
			t.Errorf("%q: %d", piece, e)
		}
		if s, e := disk.Unquote(disk.Quote(text)); s != text || e != api.OK {
			t.Errorf("%q: %d", piece, e)
		}
		if s := disk.SumOf(text); len(s) != 16 {
			t.Errorf("%q: %s", piece, s)
		}
		if _, n, e := disk.Parse(text + "."); n != 0 || e != api.ErrLarge {
			t.Errorf("%q: %d, %d", piece, n, e)
		}
		if _, n, e := disk.ParseChanges(text + "."); n != 0 || e != api.ErrLarge {
			t.Errorf("%q: %d, %d", piece, n, e)
		}
		for _, c := range []api.Change{put(text, text), remove(text), set(text, text), unset(text), begin(service(text, text)), drop(text)} {
			if e := disk.CheckChange(c); e != api.ErrName {
				t.Errorf("%q: %d", piece, e)
			}
		}
		for _, m := range []api.Machine{facts(pair(text, text)), files(api.File{Path: text, Data: text}), settings(pair(text, text)), services(service(text, text))} {
			if e := disk.Check(m); e != api.ErrName {
				t.Errorf("%q: %d", piece, e)
			}
		}
		if _, e := disk.Below(some(), text); e != api.ErrName {
			t.Errorf("%q: %d", piece, e)
		}
	}
	// As many lines as a text can have.
	if l, n, e := disk.ParseChanges(strings.Repeat("drop a\n", 4<<20/7)); len(l) != 4<<20/7 || n != 0 || e != api.OK {
		t.Error(len(l), n, e)
	}
	if _, n, e := disk.Parse(strings.Repeat("set a \"\"\n", 4<<20/9)); n != 0 || e != api.ErrLarge {
		t.Error(n, e)
	}
}

// TestG1Deep puts files below as many directories as a path can have.
func TestG1Deep(t *testing.T) {
	d := newDisk(t, api.Machine{})
	deep := strings.Repeat("a/", 98)
	for i := range api.MaxFiles {
		do(t, d, put(deep+numbered(i)[2:], ""), api.OK)
	}
	for i := range api.MaxFiles {
		do(t, d, put(deep[:i%98*2+1], ""), api.ErrConflict)
	}
	for i := range api.MaxFiles {
		do(t, d, remove(deep+numbered(i)[2:]), api.OK)
	}
	do(t, d, put("a", ""), api.OK)
	hold(t, d, files(file("a")), 2*api.MaxFiles+1)
}

// TestG1Chance gives texts made by chance: what is read is printed again just so, else it is zero.
func TestG1Chance(t *testing.T) {
	l := strings.Split("fact |file |run |set |service |put |putrun |remove |unset |drop |a|b |a/b |a-b| |\"\"|\"x\"|\"\\n\"|\"|\\|\n|\n|\"\"\n|a 0 1\n|b 1 1\n|0|1|\t|\xff|a \"\"\n|b \"\"\n|b\n", "|")
	rnd := rand.New(rand.NewPCG(7, 8))
	machines, changes := 0, 0
	for range 300000 {
		var text string
		for range 1 + rnd.IntN(9) {
			text += l[rnd.IntN(len(l))]
		}
		m, n, e := disk.Parse(text)
		if s, f := disk.Print(m); e == api.OK && (s != text || f != api.OK || n != 0) || e != api.OK && !isNone(m) || e != api.ErrSyntax && n != 0 {
			t.Fatalf("Parse(%q): %v, %d, %d", text, m, n, e)
		}
		// The lines ahead of a wrong one can be read.
		if _, k, f := disk.Parse(firstLines(text, n)); e == api.ErrSyntax && f == api.ErrSyntax {
			t.Fatalf("Parse(%q): %d, but %d", text, n, k)
		}
		c, n, f := disk.ParseChanges(text)
		if s, g := disk.PrintChanges(c); f == api.OK && (s != text || g != api.OK || n != 0) || f != api.OK && len(c) != 0 || f != api.ErrSyntax && n != 0 {
			t.Fatalf("ParseChanges(%q): %v, %d, %d", text, c, n, f)
		}
		if _, k, g := disk.ParseChanges(firstLines(text, n)); f == api.ErrSyntax && g == api.ErrSyntax {
			t.Fatalf("ParseChanges(%q): %d, but %d", text, n, k)
		}
		if e == api.OK {
			machines++
		}
		if f == api.OK {
			changes++
		}
	}
	if machines < 100 || changes < 100 {
		t.Error("too little is read:", machines, changes)
	}
}

// firstLines is so many lines of a text.
func firstLines(text string, n int) string {
	return strings.Join(strings.SplitAfter(text, "\n")[:n], "")
}

// roomy is a machine in the first parts of its lists, and what stands behind these.
func roomy() (api.Machine, api.Machine) {
	all := some()
	all.Facts = append(all.Facts, pair("zz", "1"))
	all.Files = append(all.Files, file("zz"))
	all.Settings = append(all.Settings, pair("zz", "1"))
	all.Services = append(all.Services, service("zz", "zz"))
	return api.Machine{Facts: all.Facts[:2], Files: all.Files[:4], Settings: all.Settings[:2], Services: all.Services[:4]}, all
}

// spoil writes over a machine, also behind its lists.
func spoil(m api.Machine) {
	for _, l := range [][]api.Setting{m.Facts[:cap(m.Facts)], m.Settings[:cap(m.Settings)]} {
		for i := range l {
			l[i] = pair("spoilt", "")
		}
	}
	for i := range m.Files[:cap(m.Files)] {
		m.Files[:cap(m.Files)][i] = file("spoilt")
	}
	for i := range m.Services[:cap(m.Services)] {
		m.Services[:cap(m.Services)][i] = service("spoilt", "")
	}
}

// TestG2 sees that arguments stay as they were, and that results do not lie in them, nor in each other.
func TestG2(t *testing.T) {
	m, all := roomy()
	kept := clone(all)
	l := []api.Change{put("new", "x"), remove("A"), set("a", "b"), unset("z"), begin(service("a", "x")), drop("c"), put("rest", "")}
	same := func(what string) {
		t.Helper()
		if !disk.Same(all, kept) || l[6] != put("rest", "") || l[1] != remove("A") {
			t.Fatal(what, "changes its arguments")
		}
	}
	none, e := disk.Apply(m, nil)
	if e != api.OK {
		t.Fatal(e)
	}
	spoil(none)
	same("Apply")
	spoil(apply(t, m, l[:6]...))
	same("Apply")
	started := boot(t, m)
	same("Boot")
	spoil(started)
	same("Boot")
	u, _ := disk.Undo(m, l[:6])
	clear(u[:cap(u)])
	c, _ := disk.Diff(m, facts(m.Facts...))
	clear(c[:cap(c)])
	paths, _ := disk.Below(m, "")
	clear(paths[:cap(paths)])
	same("Undo, Diff or Below")
	text, _ := disk.Print(m)
	x, _, _ := disk.Parse(text)
	y, _, _ := disk.Parse(text)
	spoil(x)
	if !disk.Same(y, some()) {
		t.Error(y)
	}
	v, _, _ := disk.ParseChanges("drop a\ndrop b\n")
	w, _, _ := disk.ParseChanges("drop a\ndrop b\n")
	clear(v[:cap(v)])
	if !slices.Equal(w, []api.Change{drop("a"), drop("b")}) {
		t.Error(w)
	}
}

// TestG2Disk sees that a disk shares nothing with its machine, with what it gives out, nor with another disk.
func TestG2Disk(t *testing.T) {
	m, all := roomy()
	kept := clone(all)
	d, other := newDisk(t, m), newDisk(t, m)
	do(t, d, put("new", "x"), api.OK)
	do(t, d, begin(service("zzz", "x")), api.OK)
	if !disk.Same(all, kept) {
		t.Error("NewDisk keeps its argument")
	}
	spoil(m)
	want := apply(t, some(), put("new", "x"), begin(service("zzz", "x")))
	hold(t, d, want, 2)
	got, _ := d.Machine()
	spoil(got)
	spoil(d.Peek())
	hold(t, d, want, 2)
	cut(t, d, 0, false)
	do(t, d, remove("A"), api.ErrCut)
	on(t, d)
	spoil(d.Peek())
	hold(t, d, boot(t, want), 2)
	hold(t, other, some(), 0)
}

// TestG3Empty sees that nil and empty lists are the same.
func TestG3Empty(t *testing.T) {
	empty := api.Machine{Facts: []api.Setting{}, Files: []api.File{}, Settings: []api.Setting{}, Services: []api.Service{}}
	if l, e := disk.Diff(api.Machine{}, empty); len(l) != 0 || e != api.OK {
		t.Error(l, e)
	}
	if m, e := disk.Apply(empty, []api.Change{}); !disk.Same(m, api.Machine{}) || e != api.OK {
		t.Error(m, e)
	}
	if s, e := disk.Print(empty); s != "" || e != api.OK {
		t.Error(s, e)
	}
	if s, e := disk.PrintChanges([]api.Change{}); s != "" || e != api.OK {
		t.Error(s, e)
	}
	hold(t, newDisk(t, empty), api.Machine{}, 0)
}
