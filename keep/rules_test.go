package keep_test

import (
	"math"
	"math/rand/v2"
	"slices"
	"strconv"
	"strings"
	"testing"

	"outfitter/api"
	"outfitter/disk"
	"outfitter/keep"
)

// TestG1Long has arguments far beyond what can be needed.
func TestG1Long(t *testing.T) {
	huge := long(1 << 22)
	slashes := strings.Repeat("a/", 1<<21)
	t.Run("words", func(t *testing.T) {
		for _, s := range []string{huge, slashes} {
			for kind := -1; kind < 9; kind++ {
				x := api.Item{Kind: kind, File: api.File{Path: s, Data: s}, Setting: api.Setting{Key: s, Value: s}, Service: api.Service{Name: s, Path: s}}
				if e := keep.CheckItem(x); e != api.ErrName && e != api.ErrKind {
					t.Error(kind, e)
				}
				h := api.Held{Owner: "a", Kind: kind, Path: s, Sum: s, Base: s}
				if e := keep.Check(api.Keep{Held: []api.Held{h}}); e != api.ErrName && e != api.ErrKind {
					t.Error(kind, e)
				}
				h.Path = "a"
				if state, e := keep.State(api.Machine{}, h); state != 0 || e != api.ErrForm && e != api.ErrKind {
					t.Error(kind, state, e)
				}
				if l, e := keep.Owners(some(), kind, s); len(l) != 0 || e != api.ErrName && e != api.ErrKind {
					t.Error(kind, e)
				}
			}
			if l, e := keep.Things(some(), s); len(l) != 0 || e != api.ErrName {
				t.Error(e)
			}
			if l, e := keep.Strays(api.Machine{}, some(), s); len(l) != 0 || e != api.ErrName {
				t.Error(e)
			}
			if r, e := keep.Drop(api.Machine{}, some(), s, api.Manner{}); !isNothing(r) || e != api.ErrName {
				t.Error(e)
			}
			if k, line, e := keep.Parse(s); len(k.Held) != 0 || line != 0 || e != api.ErrSyntax {
				t.Error(line, e)
			}
		}
	})
	l := slices.Repeat([]api.Item{item(`data a ""`)}, 1<<18)
	t.Run("items", func(t *testing.T) {
		m, k := machine(`file a ""`), keeping(`app data a ""`)
		if r, e := keep.Bring(m, k, "app", l, api.Manner{}); !isNothing(r) || e != api.ErrLarge {
			t.Error(e)
		}
		if r, e := keep.Repair(m, k, "app", l); len(r.Changes) != 0 || len(r.Keep.Held) != 1 || e != api.OK {
			t.Error(e)
		}
		if r, e := keep.Repair(api.Machine{}, k, "app", l); len(r.Changes) != 1 || e != api.OK {
			t.Error(len(r.Changes), e)
		}
		if k, e := keep.Adopt(m, k, "app", l); len(k.Held) != 0 || e != api.ErrTwice {
			t.Error(e)
		}
	})
	t.Run("keeps", func(t *testing.T) {
		k := api.Keep{Held: make([]api.Held, 1<<20)}
		m := api.Machine{}
		if e := keep.Check(k); e != api.ErrLarge {
			t.Error(e)
		}
		if l, e := keep.Audit(m, k); len(l) != 0 || e != api.ErrLarge {
			t.Error(e)
		}
		if r, e := keep.Bring(m, k, "?", l, api.Manner{}); !isNothing(r) || e != api.ErrLarge {
			t.Error(e)
		}
		if s, e := keep.Print(k); s != "" || e != api.ErrLarge {
			t.Error(e)
		}
	})
}

// TestG1Full has as much as there can be.
func TestG1Full(t *testing.T) {
	m, _, l := full("app", api.MaxFiles)
	for i := range l {
		l[i].Kind = api.ItemText
		l[i].File.Data = "x\n"
		l[i].File.Runs = i%2 == 0
	}
	t.Run("clashes", func(t *testing.T) {
		half := m
		half.Files = m.Files[:api.MaxFiles/2]
		r, e := keep.Bring(half, api.Keep{}, "app", l[:api.MaxFiles/2], api.Manner{})
		if len(r.Changes) != api.MaxFiles/2 || len(r.Notes) != api.MaxFiles/2 || e != api.OK {
			t.Error(len(r.Changes), len(r.Notes), e)
		}
		if r, e := keep.Bring(m, api.Keep{}, "app", l, api.Manner{}); !isNothing(r) || e != api.ErrLarge {
			t.Error(e)
		}
	})
	t.Run("merges", func(t *testing.T) {
		var base, there, fresh []string
		for i := range 1000 {
			line := strconv.Itoa(i%7) + "\n"
			base, there, fresh = append(base, line), append(there, line), append(fresh, line)
			if i%10 == 3 {
				there[i] = "user\n"
			}
			if i%10 == 8 {
				fresh[i] = "new\n"
			}
		}
		m := api.Machine{}
		var was, is []api.Item
		for i := range 20 {
			f := api.File{Path: numbered(i), Data: strings.Join(there, "")}
			m.Files = append(m.Files, f)
			f.Data = strings.Join(base, "")
			was = append(was, api.Item{Kind: api.ItemText, File: f})
			f.Data = strings.Join(fresh, "")
			is = append(is, api.Item{Kind: api.ItemText, File: f})
		}
		r, e := keep.Bring(m, behind(api.Keep{}, "app", was), "app", is, api.Manner{})
		if len(r.Changes) != 20 || len(r.Notes) != 20 || e != api.OK {
			t.Error(len(r.Changes), r.Notes, e)
		}
	})
	t.Run("shared", func(t *testing.T) {
		var k api.Keep
		m := machine(`file a "x"`)
		for i := range api.MaxHeld {
			k.Held = append(k.Held, api.Held{Owner: numbered(i), Kind: api.ItemShared, Path: "a", Sum: disk.SumOf("-")})
		}
		if l, e := keep.Audit(m, k); len(l) != api.MaxHeld || e != api.OK {
			t.Error(len(l), e)
		}
		if r, e := keep.Drop(m, k, numbered(7), manner("force")); len(r.Changes) != 0 || len(r.Keep.Held) != api.MaxHeld-1 || e != api.OK {
			t.Error(len(r.Changes), e)
		}
		if r, e := keep.Bring(m, k, numbered(7), items(`shared a ""`), api.Manner{}); len(r.Changes) != 1 || len(r.Notes) != 1 || e != api.OK {
			t.Error(len(r.Changes), e)
		}
		if r, e := keep.Bring(m, k, "app", items(`shared a ""`), api.Manner{}); !isNothing(r) || e != api.ErrLarge {
			t.Error(e)
		}
	})
	t.Run("gone", func(t *testing.T) {
		_, k, l := full("app", api.MaxHeld)
		if l, e := keep.Strays(m, k, ""); len(l) != 0 || e != api.OK {
			t.Error(len(l), e)
		}
		if r, e := keep.Drop(m, k, "app", api.Manner{}); len(r.Changes) != api.MaxFiles || len(r.Keep.Held) != 0 || e != api.OK {
			t.Error(len(r.Changes), e)
		}
		if r, e := keep.Bring(m, k, "app", l[:api.MaxFiles], api.Manner{}); len(r.Changes) != 0 || e != api.OK {
			t.Error(len(r.Changes), e)
		}
	})
}

// TestG1Chance has texts made by chance: what is read is printed again just so, else it is zero.
func TestG1Chance(t *testing.T) {
	odd := []string{" ", "  ", "\t", "\n", `"`, `\`, `""`, "/", "a", "text", "data ", "shared", "\x00", "\xff", "0", sum}
	rnd := &guesses{Rand: rand.New(rand.NewPCG(21, 22))}
	seen := tally{}
	for range 20000 {
		text, e := keep.Print(rnd.keep())
		if e != api.OK {
			t.Fatal(e)
		}
		for range rnd.IntN(3) {
			at := rnd.IntN(len(text) + 1)
			piece := odd[rnd.IntN(len(odd))]
			if cut := rnd.IntN(len(text) - at + 1); rnd.IntN(2) == 0 {
				text = text[:at] + piece + text[at+cut/4:]
			} else {
				text = text[:at] + piece + text[at:]
			}
		}
		k, line, e := keep.Parse(text)
		if s, f := keep.Print(k); e == api.OK && (s != text || f != api.OK) || e != api.OK && len(k.Held) != 0 || e != api.ErrSyntax && line != 0 {
			t.Fatalf("Parse(%q): %v, %d, %d", text, k, line, e)
		}
		if line > 0 && line > strings.Count(text, "\n") {
			t.Fatalf("Parse(%q): line %d", text, line)
		}
		seen[e]++
	}
	seen.want(t, api.OK, api.ErrSyntax, api.ErrName, api.ErrForm, api.ErrOrder)
}

// TestG1Any has fields of any kind.
func TestG1Any(t *testing.T) {
	rnd := &guesses{Rand: rand.New(rand.NewPCG(23, 24))}
	number := func() int { return []int{math.MinInt, -1, 0, 1, 2, 3, 4, 5, 6, 7, math.MaxInt}[rnd.IntN(11)] }
	text := func() string {
		return rnd.of("", "a", "b", "stage", "stage/a", "a/", "\n", "a/b", "A", long(41), long(201), sum)
	}
	seen := tally{}
	for range 30000 {
		x := api.Item{Kind: number()}
		if rnd.IntN(2) == 0 {
			x.File = api.File{Path: text(), Data: text(), Runs: rnd.IntN(2) == 0}
		}
		if rnd.IntN(3) == 0 {
			x.Setting = api.Setting{Key: text(), Value: text()}
		}
		if rnd.IntN(3) == 0 {
			x.Service = api.Service{Name: text(), Path: text(), Auto: rnd.IntN(2) == 0, On: rnd.IntN(4) == 0}
		}
		m := machine(`file a ""` + "\n" + `set a ""` + "\n" + `service a a 0 1`)
		l := []api.Item{x}
		e := keep.CheckItem(x)
		seen[e]++
		r, f := keep.Bring(m, api.Keep{}, "a", l, manner("force"))
		isDenied := x.File.Path == "stage" || x.File.Path == "stage/a"
		switch {
		case e == api.OK && isDenied:
			e = api.ErrDenied
		case e == api.OK && x.File.Path == "a/b":
			e = api.ErrConflict
		}
		if f != e || e != api.OK && !isNothing(r) {
			t.Fatal(x, r, f, e)
		}
		h := api.Held{Owner: text(), Kind: number(), Path: text(), Sum: text(), Base: text()}
		if rnd.IntN(2) == 0 {
			h.Owner, h.Sum = "a", sum
		}
		if rnd.IntN(2) == 0 {
			h.Base = ""
		}
		k := api.Keep{Held: []api.Held{h}}
		e = keep.Check(k)
		seen[e]++
		if state, f := keep.State(m, h); f != e || (state == 0) != (e != api.OK) {
			t.Fatal(h, state, f, e)
		}
		if faults, f := keep.Audit(m, k); f != e || e != api.OK && len(faults) != 0 {
			t.Fatal(h, faults, f, e)
		}
		if r, f := keep.Drop(m, k, "a", api.Manner{}); e != api.OK && (f != e || !isNothing(r)) {
			t.Fatal(h, r, f, e)
		}
		if r, f := keep.Repair(m, k, "a", l); e != api.OK && (f != e || !isNothing(r)) {
			t.Fatal(h, r, f, e)
		}
		if n, f := keep.Adopt(m, k, "a", l); e != api.OK && (f != e || len(n.Held) != 0) {
			t.Fatal(h, n, f, e)
		}
		if s, f := keep.Print(k); f != e || (s == "") != (e != api.OK) {
			t.Fatal(h, s, f, e)
		}
	}
	seen.want(t, api.OK, api.ErrKind, api.ErrName, api.ErrForm)
}

// widen gives a list room for more, in which nothing stands.
func widen[T any](l []T) []T {
	wide := make([]T, len(l)+2)
	copy(wide, l)
	return wide[:len(l)]
}

// wipe writes zeros over a list, also behind it.
func wipe[T any](l []T) { clear(l[:cap(l)]) }

// isZero reports whether there is nothing behind a list, as far as it has room.
func isZero[T any](l []T) bool {
	behind := l[len(l):cap(l)]
	return same(behind, make([]T, len(behind)))
}

// TestG2 sees that arguments stay as they were, and that results do not lie in them.
func TestG2(t *testing.T) {
	was := machine(`
		fact os "x"
		run bin/app "one"
		file etc/conf "x"
		file lib/x "x"
		file old "one"
		set size "1"
		service appd bin/app 0 1
	`)
	had := keeping(`
		app program bin/app "one"
		app data old "one"
		app service appd "bin/app"
		base shared lib/x "x"
	`)
	list := items(`program bin/app "two"` + "\n" + `text etc/conf "two"` + "\n" + `shared lib/x "x"` + "\n" + `setting size "2"` + "\n" + `service appd "bin/app"`)
	m, k, l := was, api.Keep{Held: widen(had.Held)}, widen(list)
	m.Facts, m.Files, m.Settings, m.Services = widen(was.Facts), widen(was.Files), widen(was.Settings), widen(was.Services)
	clean := func(what string) {
		t.Helper()
		if !same(m, was) || !same(k, had) || !slices.Equal(l, list) {
			t.Fatal(what, "changes arguments")
		}
		if !isZero(m.Facts) || !isZero(m.Files) || !isZero(m.Settings) || !isZero(m.Services) || !isZero(k.Held) || !isZero(l) {
			t.Fatal(what, "writes behind arguments")
		}
	}
	wipeResult := func(what string, r api.Result) {
		t.Helper()
		changes := slices.Clone(r.Changes)
		wipe(r.Keep.Held)
		wipe(r.Notes)
		if !slices.Equal(changes, r.Changes) {
			t.Fatal(what, "has lists that share memory")
		}
		wipe(r.Changes)
		clean(what)
	}
	for range 2 {
		r, e := keep.Bring(m, k, "app", l, api.Manner{})
		isResult(t, e, r, api.Result{
			Changes: changes(`remove old` + "\n" + `put bin/app "two"` + "\n" + `put etc/conf.new "two"`),
			Keep:    behind(had, "app", list),
			Notes:   notes("replaced bin/app\nclash etc/conf\nkept size"),
		})
		wipeResult("Bring", r)
		r, e = keep.Drop(m, k, "app", api.Manner{})
		isResult(t, e, r, api.Result{Changes: changes("remove bin/app\nremove old\ndrop appd"), Keep: api.Keep{Held: had.Held[3:]}})
		wipeResult("Drop", r)
		r, e = keep.Repair(m, k, "base", l[2:3])
		isResult(t, e, r, api.Result{Keep: had})
		wipeResult("Repair", r)
		n, e := keep.Adopt(m, k, "app", l[3:])
		if len(n.Held) != 5 || e != api.OK {
			t.Error(n, e)
		}
		wipe(n.Held)
		clean("Adopt")
		n, e = keep.Adopt(m, k, "app", nil)
		isKeep(t, e, n, had)
		wipe(n.Held)
		clean("Adopt")
		things, e := keep.Things(k, "app")
		if !slices.Equal(things, had.Held[:3]) || e != api.OK {
			t.Error(things, e)
		}
		wipe(things)
		clean("Things")
		owners, _ := keep.Owners(k, api.ItemShared, "lib/x")
		wipe(owners)
		clean("Owners")
		faults, _ := keep.Audit(m, k)
		wipe(faults)
		clean("Audit")
		strays, _ := keep.Strays(m, k, "")
		if !slices.Equal(strays, []string{"etc/conf"}) {
			t.Error(strays)
		}
		wipe(strays)
		clean("Strays")
		if state, e := keep.State(m, k.Held[0]); state != api.HeldChanged || e != api.OK {
			t.Error(state, e)
		}
		keep.Check(k)
		text, e := keep.Print(k)
		if e != api.OK {
			t.Error(e)
		}
		clean("Print")
		n, _, _ = keep.Parse(text)
		isKeep(t, "Parse", n, had)
		wipe(n.Held)
	}
}

// TestG3Empty sees that nil and empty lists are the same.
func TestG3Empty(t *testing.T) {
	empty := api.Machine{Facts: []api.Setting{}, Files: []api.File{}, Settings: []api.Setting{}, Services: []api.Service{}}
	none := api.Keep{Held: []api.Held{}}
	for _, m := range []api.Machine{{}, empty} {
		for _, k := range []api.Keep{{}, none} {
			for _, l := range [][]api.Item{nil, {}} {
				if r, e := keep.Bring(m, k, "app", l, api.Manner{}); !isNothing(r) || e != api.OK {
					t.Error(r, e)
				}
				if r, e := keep.Repair(m, k, "app", l); !isNothing(r) || e != api.ErrNone {
					t.Error(r, e)
				}
				if n, e := keep.Adopt(m, k, "app", l); len(n.Held) != 0 || e != api.OK {
					t.Error(n, e)
				}
			}
			if r, e := keep.Drop(m, k, "app", api.Manner{}); !isNothing(r) || e != api.ErrNone {
				t.Error(r, e)
			}
			if l, e := keep.Audit(m, k); len(l) != 0 || e != api.OK {
				t.Error(l, e)
			}
			if l, e := keep.Strays(m, k, ""); len(l) != 0 || e != api.OK {
				t.Error(l, e)
			}
			if e := keep.Check(k); e != api.OK {
				t.Error(e)
			}
			if l, e := keep.Owners(k, api.ItemText, "a"); len(l) != 0 || e != api.OK {
				t.Error(l, e)
			}
			if l, e := keep.Things(k, "app"); len(l) != 0 || e != api.OK {
				t.Error(l, e)
			}
			if s, e := keep.Print(k); s != "" || e != api.OK {
				t.Error(s, e)
			}
		}
	}
}
