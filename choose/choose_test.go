package choose_test

import (
	"math/rand/v2"
	"slices"
	"testing"

	"outfitter/api"
	"outfitter/choose"
)

// pick sees what Choose says.
func pick(t *testing.T, w api.World, text string, mode int, want string) {
	t.Helper()
	if got, e := choosePicks(w, wants(text), mode); got != want || e != api.OK {
		t.Errorf("Choose(%s, %d): %s, %d, not %s", text, mode, got, e, want)
	}
}

// rank sees what Rank says, and that the words of P72 say so, too.
func rank(t *testing.T, w api.World, text string, mode int, made string, want ...int) {
	t.Helper()
	got, e := choose.Rank(w, wants(text), mode, picks(made))
	if !slices.Equal(got, want) || e != api.OK || !slices.Equal(rankOf(w, wants(text), mode, picks(made)), want) {
		t.Errorf("Rank(%s, %d, %s): %v, %d, not %v", text, mode, made, got, e, want)
	}
}

func TestP72Rank(t *testing.T) {
	w := shop() // of app, lib, old and tool
	rank(t, w, "", api.ModeNewest, "", 0, 0, 0, 0)
	rank(t, api.World{}, "", api.ModeNewest, "")
	rank(t, w, "lib *", api.ModeNewest, "lib 1.0.0 core", 4, 0, 0, 0)
	rank(t, w, "lib *", api.ModeNewest, "lib 2.0.0 core", 3, 0, 0, 0)
	rank(t, w, "lib *", api.ModeNewest, "lib 3.0.0-a core", 2, 0, 0, 0)
	rank(t, w, "lib *", api.ModeNewest, "lib 3.0.0 core", 1, 0, 0, 0)
	rank(t, w, "lib *", api.ModeOldest, "lib 1.0.0 core", 1, 0, 0, 0)
	rank(t, w, "lib *", api.ModeOldest, "lib 3.0.0-a core", 3, 0, 0, 0)
	rank(t, w, "lib *", api.ModeOldest, "lib 3.0.0 core", 4, 0, 0, 0)
	rank(t, w, "lib *", api.ModeKeep, "lib 2.0.0 core", 3, 0, 0, 0)
	// Names that are wanted come first, in the order of the wants, each once.
	rank(t, w, "app *", api.ModeNewest, "app 1.0.0 core, lib 1.0.0 core", 2, 4, 0, 0)
	rank(t, w, "tool *, app *", api.ModeNewest, "app 2.0.0 core, lib 2.0.0 core, tool 1.0.0 core words", 2, 1, 3, 0)
	rank(t, w, "old *, lib *, old *, lib *", api.ModeNewest, "lib 1.0.0 core, old 1.0.0 core", 1, 4, 0, 0)
	rank(t, w, "tool *, old *, lib *, app *", api.ModeOldest, "app 1.0.0 core, lib 1.0.0 core, old 1.0.0 core, tool 1.0.0 core words", 1, 1, 1, 1)
	// With ModeKeep, what is installed counts as it is.
	w.Installed = installs("lib 2.0.0 core, tool 1.0.0 core words")
	rank(t, w, "lib *", api.ModeKeep, "lib 1.0.0 core", 4, 0, 0, 1)
	rank(t, w, "lib *", api.ModeKeep, "lib 2.0.0 core", 0, 0, 0, 1)
	rank(t, w, "lib *", api.ModeKeep, "lib 3.0.0-a core", 3, 0, 0, 1)
	rank(t, w, "lib *", api.ModeKeep, "lib 3.0.0 core", 2, 0, 0, 1)
	rank(t, w, "app *", api.ModeKeep, "app 1.0.0 core, lib 1.0.0 core", 2, 4, 0, 1)
	rank(t, w, "tool *", api.ModeKeep, "tool 1.0.0 core words", 0, 0, 1, 0)
	rank(t, w, "tool *", api.ModeKeep, "tool 2.0.0 words core", 2, 0, 1, 0)
	rank(t, w, "", api.ModeKeep, "", 0, 1, 0, 1)
	rank(t, w, "lib *", api.ModeNewest, "lib 2.0.0 core", 3, 0, 0, 0)
	rank(t, w, "lib *", api.ModeOldest, "lib 2.0.0 core", 2, 0, 0, 0)
}

func TestP72RankErrors(t *testing.T) {
	for _, mode := range []int{0, 4, -1, 1 << 40} {
		for _, text := range []string{"lib 1.0.0 core", "lib 9.0.0"} {
			if r, e := choose.Rank(shop(), wants("lib *"), mode, picks(text)); len(r) != 0 || e != api.ErrKind {
				t.Error(mode, r, e)
			}
		}
		if l, e := choose.Choose(shop(), wants("lib *"), mode); len(l) != 0 || e != api.ErrKind {
			t.Error(mode, l, e)
		}
		if l, e := choose.Choose(shop(), wants("none *"), mode); len(l) != 0 || e != api.ErrKind {
			t.Error(mode, l, e)
		}
	}
	for _, mode := range modes {
		for _, text := range []string{"", "lib 9.0.0", "lib 1.0.0", "app 1.0.0 core, lib 1.0.0 core"} {
			if r, e := choose.Rank(shop(), wants("lib *"), mode, picks(text)); len(r) != 0 || e != api.ErrForm {
				t.Error(mode, r, e)
			}
		}
	}
	for i, f := range wantFaults() {
		for _, mode := range []int{0, api.ModeNewest} {
			if r, e := choose.Rank(shop(), f.l, mode, picks("lib 1.0.0 core")); len(r) != 0 || e != f.want {
				t.Errorf("Rank %d: %v, %d", i, r, e)
			}
			if l, e := choose.Choose(shop(), f.l, mode); len(l) != 0 || e != f.want {
				t.Errorf("Choose %d: %v, %d", i, l, e)
			}
		}
	}
}

func TestP72Choose(t *testing.T) {
	w := shop()
	for _, mode := range modes {
		pick(t, w, "", mode, "")
		pick(t, api.World{}, "", mode, "")
		pick(t, w, "old *", mode, "lib 1.0.0 core, old 1.0.0 core")
	}
	pick(t, w, "tool * server", api.ModeNewest, "tool 2.0.0 server words core")
	pick(t, w, "tool * server", api.ModeOldest, "tool 1.0.0 core words server")
	pick(t, w, "lib *", api.ModeNewest, "lib 3.0.0 core")
	pick(t, w, "lib *", api.ModeOldest, "lib 1.0.0 core")
	pick(t, w, "lib *", api.ModeKeep, "lib 3.0.0 core")
	pick(t, w, "lib >=2.0.0", api.ModeOldest, "lib 2.0.0 core")
	pick(t, w, "lib <3.0.0", api.ModeNewest, "lib 2.0.0 core")
	pick(t, w, "lib *, lib <3.0.0", api.ModeNewest, "lib 2.0.0 core")
	pick(t, w, "app *", api.ModeNewest, "app 2.0.0 core, lib 3.0.0 core")
	pick(t, w, "app *", api.ModeOldest, "app 1.0.0 core, lib 1.0.0 core")
	pick(t, w, "app >=2.0.0", api.ModeOldest, "app 2.0.0 core, lib 2.0.0 core")
	// What is wanted first is as good as it can be; what can be left out is left out.
	pick(t, w, "app *, lib *", api.ModeNewest, "app 2.0.0 core, lib 3.0.0 core")
	pick(t, w, "app *, tool *", api.ModeNewest, "app 2.0.0 core, lib 3.0.0 core, tool 1.0.0 core words")
	pick(t, w, "tool *, lib *", api.ModeNewest, "lib 3.0.0 core, tool 2.0.0 words core")
	pick(t, w, "lib >=2.0.0, app *", api.ModeOldest, "app 2.0.0 core, lib 2.0.0 core")
	w = api.World{Packages: []api.Package{
		product("a 1.0.0"), product("a 2.0.0", "need c *"), product("a 3.0.0", "bar b >=2.0.0"), product("b 1.0.0"), product("b 2.0.0"), product("c 1.0.0"),
	}}
	pick(t, w, "a *, b *", api.ModeNewest, "a 3.0.0 core, b 1.0.0 core")
	pick(t, w, "b *, a *", api.ModeNewest, "a 2.0.0 core, b 2.0.0 core, c 1.0.0 core")
	pick(t, w, "b >=2.0.0, a *", api.ModeOldest, "a 1.0.0 core, b 2.0.0 core")
}

func TestP72Keep(t *testing.T) {
	w := shop()
	w.Installed = installs("app 1.0.0 core, lib 1.0.0 core, tool 1.0.0 core")
	pick(t, w, "app *", api.ModeKeep, "app 1.0.0 core, lib 1.0.0 core")
	pick(t, w, "app *", api.ModeNewest, "app 2.0.0 core, lib 3.0.0 core")
	pick(t, w, "app >=2.0.0", api.ModeKeep, "app 2.0.0 core, lib 3.0.0 core")
	pick(t, w, "tool *", api.ModeKeep, "tool 1.0.0 core")
	pick(t, w, "tool * words", api.ModeKeep, "tool 1.0.0 core words")
	pick(t, w, "old *", api.ModeKeep, "lib 1.0.0 core, old 1.0.0 core")
	w.Installed = installs("lib 2.0.0 core")
	pick(t, w, "lib *", api.ModeKeep, "lib 2.0.0 core")
	pick(t, w, "lib >=3.0.0", api.ModeKeep, "lib 3.0.0 core")
	pick(t, w, "app *", api.ModeKeep, "app 2.0.0 core, lib 2.0.0 core")
	pick(t, w, "app <2.0.0", api.ModeKeep, "app 1.0.0 core, lib 1.0.0 core")
	pick(t, w, "lib <2.0.0", api.ModeKeep, "lib 1.0.0 core")
	// To leave out what is installed is better than another version, and worse than this one.
	w = api.World{Packages: []api.Package{
		product("a 1.0.0", "need c *"), product("b 1.0.0"), product("b 2.0.0"), product("c 1.0.0", "need b >=2.0.0"), product("c 2.0.0"), product("c 3.0.0", "need b <2.0.0"),
	}}
	pick(t, w, "a *", api.ModeKeep, "a 1.0.0 core, c 2.0.0 core")
	w.Installed = installs("b 1.0.0 core")
	pick(t, w, "a *", api.ModeNewest, "a 1.0.0 core, c 2.0.0 core")
	pick(t, w, "a *", api.ModeKeep, "a 1.0.0 core, b 1.0.0 core, c 3.0.0 core")
	pick(t, w, "a *, c *", api.ModeKeep, "a 1.0.0 core, b 1.0.0 core, c 3.0.0 core")
	pick(t, w, "a *, c <3.0.0", api.ModeKeep, "a 1.0.0 core, c 2.0.0 core")
	pick(t, w, "a *, c <2.0.0", api.ModeKeep, "a 1.0.0 core, b 2.0.0 core, c 1.0.0 core")
	w.Installed = installs("b 2.0.0 core")
	pick(t, w, "a *", api.ModeKeep, "a 1.0.0 core, b 2.0.0 core, c 1.0.0 core")
	pick(t, w, "a *, c >=2.0.0", api.ModeKeep, "a 1.0.0 core, b 1.0.0 core, c 3.0.0 core")
	w.Packages = slices.Delete(w.Packages, 3, 4)
	pick(t, w, "a *", api.ModeKeep, "a 1.0.0 core, c 2.0.0 core")
}

func TestP72None(t *testing.T) {
	for _, mode := range modes {
		for _, text := range []string{"none *", "lib >=4.0.0", "lib none", "app >=2.0.0, lib <2.0.0", "old *, tool >=2.0.0", "app *, tool >=2.0.0", "tool * none", "lib *, none *", "tool * server more"} {
			if l, e := choose.Choose(shop(), wants(text), mode); len(l) != 0 || e != api.ErrNone {
				t.Errorf("Choose(%s): %v, %d", text, l, e)
			}
		}
		if l, e := choose.Choose(api.World{}, wants("lib *"), mode); len(l) != 0 || e != api.ErrNone {
			t.Error(l, e)
		}
	}
}

func TestP73Explain(t *testing.T) {
	for _, c := range []struct {
		wants string
		want  []int
	}{
		{"none *", []int{0}},
		{"lib *, none *", []int{1}},
		{"lib >=4.0.0, none *", []int{0}},
		{"app >=2.0.0, lib <2.0.0", []int{0, 1}},
		{"lib *, app >=2.0.0, lib <2.0.0", []int{1, 2}},
		{"app >=2.0.0, old *, lib <2.0.0", []int{0, 1}},
		{"lib <2.0.0, old *, app >=2.0.0", []int{0, 2}},
		{"lib <2.0.0, tool *, app >=2.0.0, old *", []int{0, 2}},
		{"tool *, old *, app >=2.0.0", []int{1, 2}},
		// Fewer wants come first, even if they stand behind others.
		{"app >=2.0.0, old *, tool * none", []int{2}},
		{"lib <3.0.0, lib >=2.0.0, lib <2.0.0", []int{1, 2}},
		{"tool <2.0.0, tool * words, tool * more", []int{2}},
		{"tool <2.0.0, tool >=2.0.0, tool *", []int{0, 1}},
		{"tool *, tool *, tool <2.0.0, tool *, tool *, tool *, tool *, tool >=2.0.0", []int{2, 7}},
	} {
		l, e := choose.Explain(shop(), wants(c.wants))
		if !slices.Equal(l, c.want) || e != api.OK || !slices.Equal(explain(shop(), wants(c.wants)), c.want) {
			t.Errorf("Explain(%s): %v, %d, not %v", c.wants, l, e, c.want)
		}
	}
	// Three that only together have nothing.
	w := api.World{Packages: []api.Package{
		product("a 1.0.0"), product("a 2.0.0"), product("a 3.0.0"), product("b 1.0.0", "bar a 1.0.0"), product("c 1.0.0", "bar a 2.0.0"), product("d 1.0.0", "bar a 3.0.0"), product("e 1.0.0"),
	}}
	if l, e := choose.Explain(w, wants("e *, d *, a *, c *, b *")); !slices.Equal(l, []int{1, 2, 3, 4}) || e != api.OK {
		t.Error(l, e)
	}
	if l, e := choose.Explain(w, wants("e *, d *, a >=2.0.0, c *, b *, d *")); !slices.Equal(l, []int{1, 2, 3}) || e != api.OK {
		t.Error(l, e)
	}
	if l, e := choose.Explain(w, wants("e *, d *, c *, b *, d *")); len(l) != 0 || e != api.ErrState {
		t.Error(l, e)
	}
}

func TestP73Errors(t *testing.T) {
	for _, text := range []string{"", "lib *", "app *, lib >=2.0.0, tool *"} {
		if l, e := choose.Explain(shop(), wants(text)); len(l) != 0 || e != api.ErrState {
			t.Error(text, l, e)
		}
	}
	if l, e := choose.Explain(api.World{}, nil); len(l) != 0 || e != api.ErrState {
		t.Error(l, e)
	}
	if l, e := choose.Explain(api.World{}, wants("lib *")); !slices.Equal(l, []int{0}) || e != api.OK {
		t.Error(l, e)
	}
	for i, f := range wantFaults() {
		if l, e := choose.Explain(shop(), f.l); len(l) != 0 || e != f.want {
			t.Errorf("Explain %d: %v, %d", i, l, e)
		}
	}
}

var modes = []int{api.ModeNewest, api.ModeOldest, api.ModeKeep}

// TestP260Chance holds worlds made by chance against all picks that there can be.
func TestP260Chance(t *testing.T) {
	rnd := rand.New(rand.NewPCG(1, 2))
	found, lost := 0, 0
	for range 1500 {
		w := install(rnd, guessWorld(rnd))
		l := guessWants(rnd)
		all := allRight(w, l)
		if len(all) == 0 {
			lost++
			got, e := choose.Explain(w, l)
			if want := explain(w, l); !slices.Equal(got, want) || e != api.OK {
				t.Fatalf("Explain(%v, %v): %v, %d, not %v", w, l, got, e, want)
			}
		} else {
			found++
			if got, e := choose.Explain(w, l); len(got) != 0 || e != api.ErrState {
				t.Fatalf("Explain(%v, %v): %v, %d", w, l, got, e)
			}
		}
		for _, mode := range modes {
			best, rank := "", []int(nil)
			for _, picks := range all {
				r := rankOf(w, l, mode, picks)
				if got, e := choose.Rank(w, l, mode, picks); !slices.Equal(got, r) || e != api.OK {
					t.Fatalf("Rank(%v, %v, %d, %v): %v, %d, not %v", w, l, mode, picks, got, e, r)
				}
				if rank == nil || slices.Compare(r, rank) < 0 {
					best, rank = show(picks), r
				}
			}
			got, e := choosePicks(w, l, mode)
			if got != best || (e == api.OK) != (len(all) > 0) || e != api.OK && e != api.ErrNone {
				t.Fatalf("Choose(%v, %v, %d): %s, %d, not %s", w, l, mode, got, e, best)
			}
		}
	}
	if found < 300 || lost < 300 {
		t.Error("too little is tried:", found, lost)
	}
}
