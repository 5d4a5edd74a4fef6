package keep_test

import (
	"math/rand/v2"
	"slices"
	"testing"

	"outfitter/api"
	"outfitter/disk"
	"outfitter/keep"
	"outfitter/stage"
)

// isFree reports whether nothing stands where items are to come, and nobody holds these places.
func isFree(m api.Machine, k api.Keep, l []api.Item) bool {
	return !slices.ContainsFunc(l, func(x api.Item) bool {
		n := holding("a", x)
		_, isThere := sumThere(m, n)
		return isThere || slices.ContainsFunc(k.Held, func(h api.Held) bool { return onePlace(h, n) })
	})
}

// TestP176Back sees that Drop behind Bring leads back.
func TestP176Back(t *testing.T) {
	g := &guesses{Rand: rand.New(rand.NewPCG(11, 12))}
	many := 0
	for range 12000 {
		k := g.keep()
		m := g.machine()
		l := g.items("none")
		if !isFree(m, k, l) || len(l) == 0 {
			continue
		}
		r, e := keep.Bring(m, k, "new", l, g.manner())
		if e != api.OK {
			continue
		}
		if len(r.Notes) != 0 || len(r.Changes) != len(l) {
			t.Fatal(m, k, l, r)
		}
		n, behind := does(t, m, r, e)
		r, e = keep.Drop(n, behind, "new", g.manner())
		n, behind = does(t, n, r, e)
		isMachine(t, []any{m, k, l}, n, m)
		isKeep(t, []any{m, k, l}, behind, k)
		many++
	}
	if many < 500 {
		t.Error("too few are so:", many)
	}
}

// isWhole sees that Audit tells nothing of an owner.
func isWhole(t *testing.T, m api.Machine, k api.Keep, owner string) {
	t.Helper()
	l, e := keep.Audit(m, k)
	if e != api.OK || slices.ContainsFunc(l, func(f api.Fault) bool { return f.Owner == owner }) {
		t.Fatal(m, k, l, e)
	}
}

// TestP176Again sees what Bring leaves: nothing is wrong, nothing has to be done again, and nothing of the user's is lost.
func TestP176Again(t *testing.T) {
	g := &guesses{Rand: rand.New(rand.NewPCG(13, 14))}
	kept, merged := 0, 0
	for range 10000 {
		k := g.keep()
		m, l := g.machine(), g.items("app")
		how := api.Manner{Force: g.IntN(2) == 0}
		r, e := keep.Bring(m, k, "app", l, how)
		if e != api.OK {
			continue
		}
		n, behind := does(t, m, r, e)
		isWhole(t, n, behind, "app")
		for _, h := range users(m, k, l) {
			sum, _ := sumThere(m, h)
			after, isThere := sumThere(n, h)
			isMerged := slices.Contains(r.Notes, api.Note{Kind: api.NoteMerged, Path: h.Path})
			if !isThere || after != sum && !isMerged {
				t.Fatal(m, k, l, "lose", h)
			}
			kept++
			if isMerged {
				merged++
			}
		}
		r, e = keep.Bring(n, behind, "app", l, how)
		if e != api.OK || len(r.Changes) != 0 {
			t.Fatal(m, k, l, "a second time:", r, e)
		}
		isKeep(t, []any{m, k, l}, r.Keep, behind)
	}
	if kept < 5000 || merged < 50 {
		t.Error("too few are so:", kept, merged)
	}
}

// users are the files and settings that the user has made, or changed, and may change; held as what they are for items.
func users(m api.Machine, k api.Keep, l []api.Item) []api.Held {
	var all []api.Held
	for _, f := range m.Files {
		all = append(all, api.Held{Kind: api.ItemData, Path: f.Path})
	}
	for _, s := range m.Settings {
		all = append(all, api.Held{Kind: api.ItemSetting, Path: s.Key})
	}
	isOwners := func(kind int) bool { return kind == api.ItemProgram || kind == api.ItemShared }
	return slices.DeleteFunc(all, func(u api.Held) bool {
		sum, _ := sumThere(m, u)
		isOld := func(h api.Held) bool {
			return h.Owner == "app" && onePlace(h, u) && (h.Sum == sum || isOwners(h.Kind))
		}
		isReplaced := func(x api.Item) bool { return onePlace(holding("app", x), u) && isOwners(x.Kind) }
		return slices.ContainsFunc(k.Held, isOld) || slices.ContainsFunc(l, isReplaced)
	})
}

// stopped is a machine without a service that is on: what a start does to services does not count.
func stopped(m api.Machine) api.Machine {
	m.Services = slices.Clone(m.Services)
	for i := range m.Services {
		m.Services[i].On = false
	}
	return m
}

// TestP280Bring brings things in transactions whose power is cut.
func TestP280Bring(t *testing.T) {
	g := &guesses{Rand: rand.New(rand.NewPCG(15, 16))}
	before, after := 0, 0
	for range 1500 {
		k := g.keep()
		m, _ := stage.Clean(g.machine())
		l := g.items("app")
		r, e := keep.Bring(m, k, "app", l, g.manner())
		if e != api.OK {
			continue
		}
		n, _ := does(t, m, r, e)
		c, _ := disk.Diff(m, n)
		var cuts []api.Cut
		for range 1 + g.IntN(3) {
			cuts = append(cuts, api.Cut{After: g.IntN(len(c) + 4), Torn: g.IntN(2) == 0})
		}
		got, said, e := stage.Try(m, "job", c, cuts)
		if e != api.OK {
			continue
		}
		want := n
		if last := said[len(said)-1]; last == api.WasNone || last == api.WasBefore {
			want = m
			before++
		} else {
			after++
		}
		isMachine(t, []any{m, c, cuts, said}, stopped(got), stopped(want))
	}
	if before < 50 || after < 200 {
		t.Error("too few are so:", before, after)
	}
}

// TestP281Update sees that an update leaves what the new version has, as if it had been installed afresh.
func TestP281Update(t *testing.T) {
	g := &guesses{Rand: rand.New(rand.NewPCG(17, 18))}
	many := 0
	for range 12000 {
		k := g.keep()
		delete(g.brought, "app")
		r, e := keep.Bring(api.Machine{}, k, "app", nil, api.Manner{})
		k = r.Keep
		m := g.machine()
		g.brought["app"] = g.items("none")
		first, second := g.brought["app"], g.items("app")
		if !isFree(m, k, first) || !isFree(m, k, second) {
			continue
		}
		if r, e = keep.Bring(m, k, "app", second, api.Manner{}); e != api.OK {
			continue
		}
		fresh, freshKeep := does(t, m, r, e)
		if r, e = keep.Bring(m, k, "app", first, api.Manner{}); e != api.OK {
			continue
		}
		n, behind := does(t, m, r, e)
		r, e = keep.Bring(n, behind, "app", second, api.Manner{})
		n, behind = does(t, n, r, e)
		if len(r.Notes) != 0 {
			t.Fatal(m, k, first, second, r.Notes)
		}
		isKeep(t, []any{m, k, first, second}, behind, freshKeep)
		// Data that was there stays.
		for _, x := range first {
			comes := func(y api.Item) bool { return y.Kind == x.Kind && y.File.Path == x.File.Path }
			if x.Kind == api.ItemData && slices.ContainsFunc(second, comes) {
				fresh, _ = disk.Apply(fresh, []api.Change{{Kind: api.ChangePut, File: x.File}})
			}
		}
		isMachine(t, []any{m, k, first, second}, n, fresh)
		if len(first) > 1 && len(second) > 1 {
			many++
		}
	}
	if many < 300 {
		t.Error("too few are so:", many)
	}
}

// TestP283Repair sees that what was damaged is made whole, and what the user may change is left.
func TestP283Repair(t *testing.T) {
	g := &guesses{Rand: rand.New(rand.NewPCG(19, 20))}
	whole, left := 0, 0
	for range 6000 {
		k := g.keep()
		m, l := g.machine(), g.brought["app"]
		r, e := keep.Repair(m, k, "app", l)
		if e != api.OK {
			continue
		}
		n, behind := does(t, m, r, e)
		isWhole(t, n, behind, "app")
		for _, x := range l {
			h := holding("app", x)
			before, isThere := sumThere(m, h)
			after, isBehind := sumThere(n, h)
			isUsers := x.Kind != api.ItemProgram && x.Kind != api.ItemShared && x.Kind != api.ItemService
			want := h.Sum
			if isThere && isUsers {
				want = before
				left++
			} else {
				whole++
			}
			if !isBehind || after != want {
				t.Fatal(m, k, l, h)
			}
		}
		if r, e = keep.Repair(n, behind, "app", l); e != api.OK || len(r.Changes) != 0 {
			t.Fatal(m, k, l, "a second time:", r, e)
		}
	}
	if whole < 1000 || left < 1000 {
		t.Error("too few are so:", whole, left)
	}
}
