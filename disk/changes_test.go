package disk_test

import (
	"math/rand/v2"
	"slices"
	"strings"
	"testing"

	"outfitter/api"
	"outfitter/disk"
)

func TestP22CheckChange(t *testing.T) {
	whole := api.Change{File: api.File{Path: "?", Data: long(api.MaxData + 1), Runs: true}, Setting: pair("?", "\n"), Service: service("?", "?")}
	for i, c := range []struct {
		c    api.Change
		want api.Errno
	}{
		{api.Change{}, api.ErrKind},
		{api.Change{Kind: -1}, api.ErrKind},
		{api.Change{Kind: 7}, api.ErrKind},
		{whole, api.ErrKind},

		{put("a/B", ""), api.OK},
		{api.Change{Kind: api.ChangePut, File: api.File{Path: "a", Data: long(api.MaxData), Runs: true}}, api.OK},
		{put("a/", long(api.MaxData+1)), api.ErrName},
		{put("a", long(api.MaxData+1)), api.ErrLarge},
		{api.Change{Kind: api.ChangePut}, api.ErrName},
		{api.Change{Kind: api.ChangePut, File: file("a"), Setting: pair("a", "")}, api.ErrForm},
		{api.Change{Kind: api.ChangePut, File: file("a"), Setting: pair("", "a")}, api.ErrForm},
		{api.Change{Kind: api.ChangePut, File: file("a"), Service: service("a", "")}, api.ErrForm},
		{api.Change{Kind: api.ChangePut, File: file("?"), Service: service("a", "")}, api.ErrName},

		{remove("a/B"), api.OK},
		{remove(""), api.ErrName},
		{remove("/"), api.ErrName},
		{api.Change{Kind: api.ChangeRemove, File: api.File{Path: "a", Data: "x"}}, api.ErrForm},
		{api.Change{Kind: api.ChangeRemove, File: api.File{Path: "a", Data: long(api.MaxData + 1)}}, api.ErrForm},
		{api.Change{Kind: api.ChangeRemove, File: api.File{Path: "a", Runs: true}}, api.ErrForm},
		{api.Change{Kind: api.ChangeRemove, File: api.File{Path: "?", Runs: true}}, api.ErrName},
		{api.Change{Kind: api.ChangeRemove, File: file("a"), Setting: pair("a", "")}, api.ErrForm},
		{api.Change{Kind: api.ChangeRemove, File: file("a"), Service: service("", "a")}, api.ErrForm},

		{set("a/B", long(1000)), api.OK},
		{set("a", ""), api.OK},
		{set("", ""), api.ErrName},
		{set("?", "\n"), api.ErrName},
		{set("a", "\n"), api.ErrForm},
		{set("a", long(1001)), api.ErrForm},
		{api.Change{Kind: api.ChangeSet, Setting: pair("a", ""), File: file("a")}, api.ErrForm},
		{api.Change{Kind: api.ChangeSet, Setting: pair("a", ""), File: api.File{Runs: true}}, api.ErrForm},
		{api.Change{Kind: api.ChangeSet, Setting: pair("a", ""), Service: api.Service{On: true}}, api.ErrForm},

		{unset("a/B"), api.OK},
		{unset(""), api.ErrName},
		{api.Change{Kind: api.ChangeUnset, Setting: pair("a", "x")}, api.ErrForm},
		{api.Change{Kind: api.ChangeUnset, Setting: pair("?", "\n")}, api.ErrName},
		{api.Change{Kind: api.ChangeUnset, Setting: pair("a", ""), File: api.File{Data: "x"}}, api.ErrForm},
		{api.Change{Kind: api.ChangeUnset, Setting: pair("a", ""), Service: api.Service{Auto: true}}, api.ErrForm},

		{begin(api.Service{Name: "a", Path: "A/b", Auto: true, On: true}), api.OK},
		{begin(service("A", "a")), api.ErrName},
		{begin(service("a/b", "a")), api.ErrName},
		{begin(service("a", "")), api.ErrName},
		{begin(service("a", "?")), api.ErrName},
		{api.Change{Kind: api.ChangeService, Service: service("a", "a"), File: file("a")}, api.ErrForm},
		{api.Change{Kind: api.ChangeService, Service: service("a", "a"), Setting: pair("a", "")}, api.ErrForm},

		{drop("a"), api.OK},
		{drop("a/b"), api.ErrName},
		{drop(""), api.ErrName},
		{begin(api.Service{Name: "a", Path: "a"}), api.OK},
		{api.Change{Kind: api.ChangeDrop, Service: service("a", "a")}, api.ErrForm},
		{api.Change{Kind: api.ChangeDrop, Service: service("a", "?")}, api.ErrForm},
		{api.Change{Kind: api.ChangeDrop, Service: api.Service{Name: "a", Auto: true}}, api.ErrForm},
		{api.Change{Kind: api.ChangeDrop, Service: api.Service{Name: "a", On: true}}, api.ErrForm},
		{api.Change{Kind: api.ChangeDrop, Service: api.Service{Name: "A", On: true}}, api.ErrName},
		{api.Change{Kind: api.ChangeDrop, Service: service("a", ""), File: file("a")}, api.ErrForm},
		{api.Change{Kind: api.ChangeDrop, Service: service("a", ""), Setting: pair("a", "")}, api.ErrForm},
	} {
		if e := disk.CheckChange(c.c); e != c.want {
			t.Errorf("CheckChange %d: %d, not %d", i, e, c.want)
		}
	}
}

func TestP23Apply(t *testing.T) {
	runs := put("bin/a", "x")
	runs.File.Runs = true
	want := api.Machine{
		Facts:    some().Facts,
		Files:    []api.File{{Path: "A", Data: "new"}, {Path: "bin-2/a", Data: "one", Runs: true}, {Path: "bin-2/b/c", Data: "two"}, {Path: "bin/a", Data: "x", Runs: true}},
		Settings: []api.Setting{pair("B", ""), pair("UI/x", ""), pair("UI/x/y", "1")},
		Services: []api.Service{{Name: "a", Path: "none", On: true}, {Name: "b", Path: "b"}, {Name: "bb", Path: "bb", Auto: true, On: true}, {Name: "c", Path: "A", Auto: true, On: true}},
	}
	got := apply(t, some(),
		put("A", "new"), remove("bin"), runs,
		set("UI/x", ""), set("UI/x/y", "1"), unset("z"), set("B", ""),
		drop("d"), begin(service("b", "b")), begin(api.Service{Name: "bb", Path: "bb", Auto: true, On: true}),
	)
	if !disk.Same(got, want) {
		t.Error(got)
	}
	if got := apply(t, some()); !disk.Same(got, some()) {
		t.Error(got)
	}
	// A later change sees what an earlier one has made.
	if got := apply(t, api.Machine{}, put("a", "1"), put("a", "2"), remove("a"), put("a/b", "3"), set("a", "1"), set("a", "2")); !disk.Same(got, api.Machine{Files: []api.File{{Path: "a/b", Data: "3"}}, Settings: []api.Setting{pair("a", "2")}}) {
		t.Error(got)
	}
	if got := apply(t, api.Machine{}, put("a/b/c", ""), remove("a/b/c"), put("a/b", ""), remove("a/b"), put("a", "")); !disk.Same(got, files(file("a"))) {
		t.Error(got)
	}
	if got := apply(t, api.Machine{}, begin(service("a", "a")), drop("a"), begin(service("a", "b")), set("a", ""), unset("a")); !disk.Same(got, services(service("a", "b"))) {
		t.Error(got)
	}
}

func TestP23ApplyErrors(t *testing.T) {
	odd := remove("none")
	odd.File.Runs = true
	l := func(l ...api.Change) []api.Change { return l }
	for i, c := range []struct {
		m    api.Machine
		l    []api.Change
		want api.Errno
	}{
		{some(), l(api.Change{}), api.ErrKind},
		{some(), l(put("a", ""), odd), api.ErrForm},
		{some(), l(put("a", long(api.MaxData+1))), api.ErrLarge},
		{some(), l(remove("none")), api.ErrNone},
		{some(), l(remove("bin-2")), api.ErrNone},
		{some(), l(unset("A")), api.ErrNone},
		{some(), l(unset("UI")), api.ErrNone},
		{some(), l(drop("e")), api.ErrNone},
		{some(), l(drop("cpu")), api.ErrNone},
		{some(), l(remove("A"), remove("A")), api.ErrNone},
		{some(), l(unset("z"), unset("z")), api.ErrNone},
		{some(), l(drop("a"), drop("a")), api.ErrNone},
		{some(), l(put("A/b", "")), api.ErrConflict},
		{some(), l(put("A/b/c/d", "")), api.ErrConflict},
		{some(), l(put("bin-2/b/c/d", "")), api.ErrConflict},
		{some(), l(put("bin-2", "")), api.ErrConflict},
		{some(), l(put("bin-2/b", "")), api.ErrConflict},
		{some(), l(remove("bin-2/a"), put("bin-2", "")), api.ErrConflict},
		{some(), l(remove("bin-2/a"), remove("bin-2/b/c"), put("bin-2", "")), api.OK},
		{some(), l(put("bin-2/a", ""), put("bin-2/a", ""), remove("bin-2/a"), put("bin-2/a/b", "")), api.OK},
		{some(), l(put("bin-2/a", ""), remove("bin-2/a"), remove("bin-2/b/c"), put("bin-2", "")), api.OK},
		{some(), l(put("x/y", ""), put("x", "")), api.ErrConflict},
		{some(), l(put("x", ""), put("x/y", "")), api.ErrConflict},
		{some(), l(put("A.b", ""), put("A-", ""), put("bin-/a", ""), put("bi", "")), api.OK},
		{full(0, 0, 0, 0), l(put(numbered(7), "x"), set(numbered(7), "x"), begin(service(numbered(7), "y"))), api.OK},
		{full(0, 0, 0, 0), l(put("x", "")), api.ErrLarge},
		{full(0, 0, 0, 0), l(set("x", "")), api.ErrLarge},
		{full(0, 0, 0, 0), l(begin(service("x", "x"))), api.ErrLarge},
		{full(0, 0, 0, 0), l(remove(numbered(0)), put("x", ""), unset(numbered(9)), set("x", ""), drop(numbered(9)), begin(service("x", "x"))), api.OK},
		{full(0, 0, 0, 0), l(put(numbered(0)+"/x", "")), api.ErrConflict},
		{full(0, -1, -1, -1), l(put("x", ""), set("x", ""), begin(service("x", "x"))), api.OK},
		{full(0, -1, -1, -1), l(put("x", ""), put("y", "")), api.ErrLarge},
		{full(0, -1, -1, -1), l(set("x", ""), set("y", "")), api.ErrLarge},
		{full(0, -1, -1, -1), l(begin(service("x", "x")), begin(service("y", "x"))), api.ErrLarge},
		// The first bad one decides.
		{some(), l(remove("none"), api.Change{}), api.ErrNone},
		{some(), l(put("A/b", ""), remove("none")), api.ErrConflict},
		{full(0, 0, 0, 0), l(put("x", ""), put(numbered(0)+"/x", "")), api.ErrLarge},
	} {
		m, e := disk.Apply(c.m, c.l)
		if e != c.want || e != api.OK && !isNone(m) {
			t.Errorf("Apply %d: %d, not %d", i, e, c.want)
		}
		u, f := disk.Undo(c.m, c.l)
		if f != c.want || e != api.OK && len(u) != 0 {
			t.Errorf("Undo %d: %d, not %d", i, f, c.want)
		}
	}
}

func TestP23Diff(t *testing.T) {
	a := api.Machine{
		Files:    []api.File{file("a"), file("b"), {Path: "c", Data: "x"}, file("d"), file("e/f"), file("g")},
		Settings: []api.Setting{pair("a", "1"), pair("b", "1"), pair("c", "1"), pair("d", "1")},
		Services: []api.Service{service("a", "x"), service("b", "x"), service("c", "x"), service("d", "x"), service("e", "x"), service("f", "x")},
	}
	b := api.Machine{
		Files:    []api.File{{Path: "b", Runs: true}, {Path: "c", Data: "y"}, file("d"), file("e"), file("g/h")},
		Settings: []api.Setting{pair("b", "2"), pair("c", "1"), pair("e", "1"), pair("f", "1")},
		Services: []api.Service{service("b", "y"), {Name: "c", Path: "x", Auto: true}, {Name: "d", Path: "x", On: true}, service("e", "x"), service("g", "x")},
	}
	runs := put("b", "")
	runs.File.Runs = true
	want := []api.Change{
		remove("a"), remove("e/f"), remove("g"), unset("a"), unset("d"), drop("a"), drop("f"),
		runs, put("c", "y"), put("e", ""), put("g/h", ""), set("b", "2"), set("e", "1"), set("f", "1"),
		begin(service("b", "y")), begin(api.Service{Name: "c", Path: "x", Auto: true}), begin(api.Service{Name: "d", Path: "x", On: true}), begin(service("g", "x")),
	}
	if l, e := disk.Diff(a, b); !slices.Equal(l, want) || e != api.OK {
		t.Error(l, e)
	}
	if got := apply(t, a, want...); !disk.Same(got, b) {
		t.Error(got)
	}
	if l, e := disk.Diff(some(), some()); len(l) != 0 || e != api.OK {
		t.Error(l, e)
	}
	if l, e := disk.Diff(full(0, 0, 0, 0), facts(full(0, 0, 0, 0).Facts...)); len(l) != 4100 || e != api.OK {
		t.Error(len(l), e)
	}
	for i, l := range [][]api.Setting{nil, {pair("cpu", "x 64")}, {pair("cpu", "x 32"), pair("os", "")}, {pair("cpu", "x 64"), pair("os", ""), pair("z", "")}} {
		if c, e := disk.Diff(some(), facts(l...)); len(c) != 0 || e != api.ErrConflict {
			t.Error(i, c, e)
		}
		if c, e := disk.Diff(facts(l...), some()); len(c) != 0 || e != api.ErrConflict {
			t.Error(i, c, e)
		}
	}
}

func TestP23Undo(t *testing.T) {
	want := []api.Change{remove("x"), unset("B"), drop("e"), put("bin-2/a", "one"), set("UI/x", "\\\""), set("z", "9"), begin(api.Service{Name: "a", Path: "none", On: true})}
	want[3].File.Runs = true
	l := []api.Change{set("B", ""), put("x", "1"), put("x", "2"), put("A", ""), drop("a"), set("UI/x", ""), unset("z"), remove("bin-2/a"), begin(service("e", "e")), put("A", some().Files[0].Data)}
	if u, e := disk.Undo(some(), l); !slices.Equal(u, want) || e != api.OK {
		t.Error(u, e)
	}
	if u, e := disk.Undo(some(), nil); len(u) != 0 || e != api.OK {
		t.Error(u, e)
	}
}

// slowly makes a change of a machine by going through its lists, and tells its error by looking at what comes of it.
func slowly(m api.Machine, c api.Change) (api.Machine, api.Errno) {
	n := clone(m)
	isFile := func(f api.File) bool { return f.Path == c.File.Path }
	isSetting := func(s api.Setting) bool { return s.Key == c.Setting.Key }
	isService := func(s api.Service) bool { return s.Name == c.Service.Name }
	n.Files = slices.DeleteFunc(n.Files, isFile)
	n.Settings = slices.DeleteFunc(n.Settings, isSetting)
	n.Services = slices.DeleteFunc(n.Services, isService)
	switch c.Kind {
	case api.ChangePut:
		n.Files = append(n.Files, c.File)
		slices.SortFunc(n.Files, func(f, g api.File) int { return strings.Compare(f.Path, g.Path) })
	case api.ChangeSet:
		n.Settings = append(n.Settings, c.Setting)
		slices.SortFunc(n.Settings, func(s, r api.Setting) int { return strings.Compare(s.Key, r.Key) })
	case api.ChangeService:
		n.Services = append(n.Services, c.Service)
		slices.SortFunc(n.Services, func(s, r api.Service) int { return strings.Compare(s.Name, r.Name) })
	case api.ChangeRemove, api.ChangeUnset, api.ChangeDrop:
		if disk.Same(n, m) {
			return api.Machine{}, api.ErrNone
		}
	}
	if e := disk.Check(n); e != api.OK {
		return api.Machine{}, e
	}
	return n, api.OK
}

// TestP23Chance holds Apply against slowly, and sees that Diff and Undo lead where they shall.
func TestP23Chance(t *testing.T) {
	rnd := rand.New(rand.NewPCG(1, 2))
	for range 3000 {
		a, b := guess(rnd), guess(rnd)
		want := a
		var l []api.Change
		for range rnd.IntN(15) {
			c := guessChange(rnd)
			next, e := slowly(want, c)
			got, f := disk.Apply(a, append(slices.Clone(l), c))
			if e != f || e != api.OK && !isNone(got) || e == api.OK && !disk.Same(got, next) {
				t.Fatalf("Apply(%v, %v, %v): %v, %d, not %v, %d", a, l, c, got, f, next, e)
			}
			if e == api.OK {
				want, l = next, append(l, c)
			}
		}
		u, e := disk.Undo(a, l)
		if e != api.OK || !disk.Same(apply(t, apply(t, a, l...), u...), a) {
			t.Fatalf("Undo(%v, %v): %v, %d", a, l, u, e)
		}
		d, e := disk.Diff(a, b)
		if e != api.OK || !disk.Same(apply(t, a, d...), b) {
			t.Fatalf("Diff(%v, %v): %v, %d", a, b, d, e)
		}
		if f := disk.Check(apply(t, a, d...)); f != api.OK {
			t.Fatal(f)
		}
	}
}
