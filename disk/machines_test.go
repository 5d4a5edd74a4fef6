package disk_test

import (
	"slices"
	"strings"
	"testing"

	"outfitter/api"
	"outfitter/disk"
)

func TestP20Check(t *testing.T) {
	large := api.File{Path: "b", Data: long(api.MaxData + 1)}
	for i, c := range []struct {
		m    api.Machine
		want api.Errno
	}{
		{api.Machine{}, api.OK},
		{some(), api.OK},
		{full(0, 0, 0, 0), api.OK},
		{full(1, 0, 0, 0), api.ErrLarge},
		{full(0, 1, 0, 0), api.ErrLarge},
		{full(0, 0, 1, 0), api.ErrLarge},
		{full(0, 0, 0, 1), api.ErrLarge},

		{facts(pair("", "")), api.ErrName},
		{facts(pair("A", "")), api.ErrName},
		{facts(pair("a/b", "")), api.ErrName},
		{facts(pair(long(40), long(1000))), api.OK},
		{facts(pair(long(41), "")), api.ErrName},
		{facts(pair("a", long(1001))), api.ErrForm},
		{facts(pair("a", "\n")), api.ErrForm},
		{facts(pair("?", "\n")), api.ErrName},
		{facts(pair("b", ""), pair("a", "")), api.ErrOrder},
		{facts(pair("a", "1"), pair("a", "2")), api.ErrOrder},
		{facts(pair("a", ""), pair("a-", ""), pair("b", "")), api.OK},
		{facts(pair("b", ""), pair("a", "\n")), api.ErrForm},
		{facts(pair("b", ""), pair("?", "\n")), api.ErrName},
		{facts(pair("b", ""), pair("a", ""), pair("?", "")), api.ErrOrder},
		{facts(pair("a", "\n"), pair("?", "")), api.ErrForm},

		{files(file("")), api.ErrName},
		{files(file("a/")), api.ErrName},
		{files(file("../a")), api.ErrName},
		{files(api.File{Path: "Z/_", Data: long(api.MaxData)}), api.OK},
		{files(large), api.ErrLarge},
		{files(api.File{Path: "/", Data: large.Data}), api.ErrName},
		{files(file("b"), file("a")), api.ErrOrder},
		{files(file("a"), file("a")), api.ErrOrder},
		{files(file("c"), large), api.ErrLarge},
		{files(file("c"), file("a/")), api.ErrName},
		{files(file("Z"), file("a"), file("a-"), file("a.b"), file("a0")), api.OK},
		{files(file("a"), file("a/b")), api.ErrConflict},
		{files(file("a"), file("a/b/c/d")), api.ErrConflict},
		{files(file("a/b"), file("a/b/c")), api.ErrConflict},
		{files(file("a"), file("a-b"), file("a-b.c"), file("a/c")), api.ErrConflict},
		{files(file("a-b"), file("a/b")), api.OK},
		{files(file("a/b"), file("a/c"), file("a/c.d/e")), api.OK},
		{files(file("b/a"), file("c/b/a/x")), api.OK},
		// Out of order comes first, and the first bad one decides.
		{files(file("b"), file("a"), file("a/b")), api.ErrOrder},
		{files(file("a"), file("b"), file("a/b")), api.ErrOrder},
		{files(file("a"), file("a/b"), file("?")), api.ErrConflict},
		{files(file("a"), api.File{Path: "a/b", Data: large.Data}), api.ErrLarge},

		{settings(pair("", "")), api.ErrName},
		{settings(pair("a//b", "\n")), api.ErrName},
		{settings(pair("A/b", "\n")), api.ErrForm},
		{settings(pair("a", long(1001))), api.ErrForm},
		{settings(pair("b", ""), pair("a", "")), api.ErrOrder},
		{settings(pair("a", ""), pair("a", "")), api.ErrOrder},
		{settings(pair("b", ""), pair("a", "\n")), api.ErrForm},
		{settings(pair("b", ""), pair("a", ""), pair("?", "")), api.ErrOrder},
		// Settings can lie below each other.
		{settings(pair("B", ""), pair("a", ""), pair("a/b", "")), api.OK},

		{services(service("", "a")), api.ErrName},
		{services(service("A", "a")), api.ErrName},
		{services(service("a", "")), api.ErrName},
		{services(service("a", "/")), api.ErrName},
		{services(service("a", "A/b")), api.OK},
		{services(service("b", "a"), service("a", "a")), api.ErrOrder},
		{services(service("a", "a"), service("a", "b")), api.ErrOrder},
		{services(service("b", "a"), service("a", "?")), api.ErrName},
		{services(service("b", "a"), service("a", "a"), service("?", "")), api.ErrOrder},

		// Facts come first, then files, settings and services.
		{api.Machine{Facts: []api.Setting{pair("a", "\n")}, Files: []api.File{file("?")}}, api.ErrForm},
		{api.Machine{Files: []api.File{file("a"), file("a/b")}, Settings: []api.Setting{pair("a", "\n")}}, api.ErrConflict},
		{api.Machine{Settings: []api.Setting{pair("a", "\n")}, Services: []api.Service{service("?", "")}}, api.ErrForm},
		{api.Machine{Services: []api.Service{service("?", "")}, Facts: []api.Setting{pair("b", ""), pair("a", "")}}, api.ErrOrder},
	} {
		if e := disk.Check(c.m); e != c.want {
			t.Errorf("Check %d: %d, not %d", i, e, c.want)
		}
	}
	// What is too much comes ahead of all else.
	for i, m := range []api.Machine{full(0, 1, 0, 0), full(0, 0, 1, 0), full(0, 0, 0, 1)} {
		m.Facts[0].Key = "?"
		if e := disk.Check(m); e != api.ErrLarge {
			t.Error(i, e)
		}
	}
}

// TestP20First sees that all functions with a machine look at it ahead of all else.
func TestP20First(t *testing.T) {
	m, bad := wrong(), []api.Change{{}}
	if v, e := disk.Fact(m, "/"); v != "" || e != api.ErrName {
		t.Error(v, e)
	}
	m.Facts[0] = pair("a", "\n")
	if v, e := disk.Fact(m, "/"); v != "" || e != api.ErrForm {
		t.Error(v, e)
	}
	if f, e := disk.File(m, "/"); f != (api.File{}) || e != api.ErrForm {
		t.Error(f, e)
	}
	if v, e := disk.Setting(m, "/"); v != "" || e != api.ErrForm {
		t.Error(v, e)
	}
	if s, e := disk.Service(m, "/"); s != (api.Service{}) || e != api.ErrForm {
		t.Error(s, e)
	}
	if l, e := disk.Below(m, "/"); len(l) != 0 || e != api.ErrForm {
		t.Error(l, e)
	}
	if n, e := disk.Apply(m, bad); !isNone(n) || e != api.ErrForm {
		t.Error(n, e)
	}
	if l, e := disk.Diff(m, wrong()); len(l) != 0 || e != api.ErrForm {
		t.Error(l, e)
	}
	if l, e := disk.Diff(some(), m); len(l) != 0 || e != api.ErrForm {
		t.Error(l, e)
	}
	if l, e := disk.Undo(m, bad); len(l) != 0 || e != api.ErrForm {
		t.Error(l, e)
	}
	if s, e := disk.Sum(m); s != "" || e != api.ErrForm {
		t.Error(s, e)
	}
	if n, e := disk.Size(m); n != 0 || e != api.ErrForm {
		t.Error(n, e)
	}
	if n, e := disk.Boot(m); !isNone(n) || e != api.ErrForm {
		t.Error(n, e)
	}
	if s, e := disk.Print(m); s != "" || e != api.ErrForm {
		t.Error(s, e)
	}
	if d, e := disk.NewDisk(m); d != nil || e != api.ErrForm {
		t.Error(d, e)
	}
}

func TestP21Things(t *testing.T) {
	m := some()
	for _, s := range m.Facts {
		if v, e := disk.Fact(m, s.Key); v != s.Value || e != api.OK {
			t.Errorf("Fact(%s): %q, %d", s.Key, v, e)
		}
	}
	for _, f := range m.Files {
		if g, e := disk.File(m, f.Path); g != f || e != api.OK {
			t.Errorf("File(%s): %v, %d", f.Path, g, e)
		}
	}
	for _, s := range m.Settings {
		if v, e := disk.Setting(m, s.Key); v != s.Value || e != api.OK {
			t.Errorf("Setting(%s): %q, %d", s.Key, v, e)
		}
	}
	for _, s := range m.Services {
		if r, e := disk.Service(m, s.Name); r != s || e != api.OK {
			t.Errorf("Service(%s): %v, %d", s.Name, r, e)
		}
	}
}

func TestP21Errors(t *testing.T) {
	m := some()
	for name, want := range map[string]api.Errno{
		"": api.ErrName, "UI/x": api.ErrName, "A": api.ErrName, "z": api.ErrNone, "bin": api.ErrNone, "cpu-": api.ErrNone, long(41): api.ErrName,
	} {
		if v, e := disk.Fact(m, name); v != "" || e != want {
			t.Errorf("Fact(%q): %q, %d", name, v, e)
		}
		if s, e := disk.Service(m, name); s != (api.Service{}) || e != want {
			t.Errorf("Service(%q): %v, %d", name, s, e)
		}
	}
	for path, want := range map[string]api.Errno{
		"": api.ErrName, "UI/": api.ErrName, "..": api.ErrName, "bin-2": api.ErrNone, "bin-2/b": api.ErrNone, "0": api.ErrNone, "os": api.ErrNone,
		"a": api.ErrNone, "UI": api.ErrNone, "zz": api.ErrNone, long(41): api.ErrName,
	} {
		if f, e := disk.File(m, path); f != (api.File{}) || e != want {
			t.Errorf("File(%q): %v, %d", path, f, e)
		}
		if v, e := disk.Setting(m, path); v != "" || e != want {
			t.Errorf("Setting(%q): %q, %d", path, v, e)
		}
	}
	if _, e := disk.File(api.Machine{}, "a"); e != api.ErrNone {
		t.Error(e)
	}
}

func TestP21Below(t *testing.T) {
	m := files(file("Dir/x"), file("d/r"), file("di/r/x"), file("dir-/x"), file("dir.x"), file("dir/a"), file("dir/b/c"), file("dir0/x"), file("e/dir/x"))
	for dir, want := range map[string]string{
		"dir":   "dir/a dir/b/c",
		"dir/b": "dir/b/c",
		"dir/a": "", // a file has nothing below it
		"di":    "di/r/x",
		"di/r":  "di/r/x",
		"e":     "e/dir/x",
		"none":  "",
		"dir.x": "",
		"":      "Dir/x d/r di/r/x dir-/x dir.x dir/a dir/b/c dir0/x e/dir/x",
	} {
		if l, e := disk.Below(m, dir); strings.Join(l, " ") != want || e != api.OK {
			t.Errorf("Below(%q): %q, %d", dir, l, e)
		}
	}
	for _, dir := range []string{"/", "dir/", "/dir", ".", "dir/..", " ", long(41)} {
		if l, e := disk.Below(m, dir); len(l) != 0 || e != api.ErrName {
			t.Errorf("Below(%q): %q, %d", dir, l, e)
		}
	}
	if l, e := disk.Below(api.Machine{}, ""); len(l) != 0 || e != api.OK {
		t.Error(l, e)
	}
}

func TestP24Same(t *testing.T) {
	if !disk.Same(some(), some()) || !disk.Same(api.Machine{}, api.Machine{}) {
		t.Error("not the same")
	}
	empty := api.Machine{Facts: []api.Setting{}, Files: []api.File{}, Settings: []api.Setting{}, Services: []api.Service{}}
	if !disk.Same(api.Machine{}, empty) || !disk.Same(empty, api.Machine{}) {
		t.Error("nothing is not the same as nothing")
	}
	for i, change := range []func(m *api.Machine){
		func(m *api.Machine) { m.Facts[0].Key = "?" },
		func(m *api.Machine) { m.Facts[1].Value = "\n" },
		func(m *api.Machine) { m.Facts = m.Facts[:1] },
		func(m *api.Machine) { m.Files[0].Path = "" },
		func(m *api.Machine) { m.Files[1].Data = "x" },
		func(m *api.Machine) { m.Files[2].Runs = false },
		func(m *api.Machine) { m.Files = nil },
		func(m *api.Machine) { m.Settings[0].Key = "" },
		func(m *api.Machine) { m.Settings[1].Value = "" },
		func(m *api.Machine) { m.Settings = append(m.Settings, m.Settings[0]) },
		func(m *api.Machine) { m.Services[0].Name = "" },
		func(m *api.Machine) { m.Services[0].Path = "" },
		func(m *api.Machine) { m.Services[0].Auto = true },
		func(m *api.Machine) { m.Services[0].On = false },
		func(m *api.Machine) { m.Services = m.Services[1:] },
		func(m *api.Machine) { slices.Reverse(m.Services) },
	} {
		m, n := some(), some()
		change(&m)
		if disk.Same(m, n) || disk.Same(n, m) {
			t.Errorf("change %d is not seen", i)
		}
		change(&n)
		if !disk.Same(m, n) {
			t.Errorf("change %d is not the same", i)
		}
	}
}

func TestP24Size(t *testing.T) {
	for want, m := range map[int]api.Machine{
		0:               facts(pair("a", "value")),
		12:              some(),
		api.MaxData + 1: files(api.File{Path: "a", Data: long(api.MaxData)}, file("b"), api.File{Path: "c", Data: "x"}),
	} {
		if n, e := disk.Size(m); n != want || e != api.OK {
			t.Error(n, want, e)
		}
	}
}

func TestP24Boot(t *testing.T) {
	want := some()
	want.Services[0].On, want.Services[1].On = false, true
	if m, e := disk.Boot(some()); !disk.Same(m, want) || e != api.OK {
		t.Error(m, e)
	}
	if m, e := disk.Boot(want); !disk.Same(m, want) || e != api.OK {
		t.Error(m, e)
	}
	if m, e := disk.Boot(api.Machine{}); !isNone(m) || e != api.OK {
		t.Error(m, e)
	}
}
