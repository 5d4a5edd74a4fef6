package choose_test

import (
	"strconv"
	"testing"

	"outfitter/api"
	"outfitter/choose"
)

// stocked has packages with these names and versions.
func stocked(heads ...string) api.World {
	var w api.World
	for _, head := range heads {
		w.Packages = append(w.Packages, product(head))
	}
	return w
}

// versions are heads of packages of one name, from one major version to another one.
func versions(name string, from, to int) []string {
	var heads []string
	for i := from; i <= to; i++ {
		heads = append(heads, name+" "+strconv.Itoa(i)+".0.0")
	}
	return heads
}

// names are heads of packages from a to the letter with this number, from 1.
func names(to int) []string {
	var heads []string
	for i := range to {
		heads = append(heads, string(rune('a'+i))+" 1.0.0")
	}
	return heads
}

// full has as many packages as can be.
func full() api.World {
	var heads []string
	for i := range api.MaxNames {
		heads = append(heads, versions(string(rune('a'+i)), 1, api.MaxVersions)...)
	}
	return stocked(heads...)
}

func check(t *testing.T, what any, w api.World, want api.Errno) {
	t.Helper()
	if e := choose.Check(w); e != want {
		t.Errorf("Check %v: %d, not %d", what, e, want)
	}
}

func TestP70Order(t *testing.T) {
	for i, c := range []struct {
		heads []string
		want  api.Errno
	}{
		{nil, api.OK},
		{[]string{"a 1.0.0"}, api.OK},
		{[]string{"a 1.0.0", "a 2.0.0", "b 1.0.0"}, api.OK},
		{[]string{"a 2.0.0", "b 1.0.0"}, api.OK},
		{[]string{"a 1.9.0", "a 1.10.0"}, api.OK},
		{[]string{"a 1.0.0-9", "a 1.0.0-10", "a 1.0.0-a", "a 1.0.0"}, api.OK},
		{[]string{"a 1.0.0", "a-b 1.0.0", "a.b 1.0.0", "a0 1.0.0", "ab 1.0.0"}, api.OK},
		{[]string{"a 1.0.0", "a 1.0.0"}, api.ErrOrder},
		{[]string{"a 1.0.0-a", "a 1.0.0-a"}, api.ErrOrder},
		{[]string{"a 2.0.0", "a 1.0.0"}, api.ErrOrder},
		{[]string{"a 1.10.0", "a 1.9.0"}, api.ErrOrder},
		{[]string{"a 1.0.0", "a 1.0.0-a"}, api.ErrOrder},
		{[]string{"b 1.0.0", "a 2.0.0"}, api.ErrOrder},
		{[]string{"a 1.0.0", "b 1.0.0", "a 2.0.0"}, api.ErrOrder},
		{[]string{"ab 1.0.0", "a.b 1.0.0"}, api.ErrOrder},
	} {
		check(t, i, stocked(c.heads...), c.want)
	}
}

func TestP70Large(t *testing.T) {
	for i, c := range []struct {
		heads []string
		want  api.Errno
	}{
		{versions("a", 1, 6), api.OK},
		{versions("a", 1, 7), api.ErrLarge},
		{append(versions("a", 1, 6), versions("b", 1, 6)...), api.OK},
		{append(versions("a", 1, 6), versions("b", 1, 7)...), api.ErrLarge},
		{names(8), api.OK},
		{names(9), api.ErrLarge},
		{append(names(8), "h 2.0.0"), api.OK},
		// Each package is looked at for all before the next one.
		{append(versions("a", 1, 6), "a 6.0.0"), api.ErrOrder},
		{append(versions("a", 1, 7), "a 7.0.0"), api.ErrLarge},
		{append(names(8), "a 2.0.0"), api.ErrOrder},
		{append(names(9), "a 2.0.0"), api.ErrLarge},
		{append(append([]string{"a 1.0.0"}, names(8)...), "i 1.0.0"), api.ErrOrder},
	} {
		check(t, i, stocked(c.heads...), c.want)
	}
	w := full()
	check(t, "full", w, api.OK)
	for len(w.Packages) < api.MaxCatalog {
		w.Packages = append(w.Packages, w.Packages[0])
	}
	check(t, "as large", w, api.ErrOrder)
	w.Packages[0].Title = "\n"
	check(t, "as large, and wrong", w, api.ErrForm)
	w.Packages = append(w.Packages, w.Packages[1])
	check(t, "larger", w, api.ErrLarge)
}

func TestP70Packages(t *testing.T) {
	for i, c := range []struct {
		do   func(l []api.Package)
		want api.Errno
	}{
		{func(l []api.Package) { l[0].Title = "\n" }, api.ErrForm},
		{func(l []api.Package) { l[2].Components = nil }, api.ErrEmpty},
		{func(l []api.Package) { l[2].Version.Major = -1 }, api.ErrRange},
		{func(l []api.Package) { l[1].Needs = []api.Need{{Name: "a"}} }, api.ErrLoop},
		// Its own errors are ahead of its place among the others, and both of those of the next one.
		{func(l []api.Package) { l[1].Version, l[1].Title = l[0].Version, "\n" }, api.ErrForm},
		{func(l []api.Package) { l[1].Version, l[2].Title = l[0].Version, "\n" }, api.ErrOrder},
		{func(l []api.Package) { l[1].Components, l[2].Title = nil, "\n" }, api.ErrEmpty},
		{func(l []api.Package) { l[6].Title = "\n" }, api.ErrForm},
		{func(l []api.Package) { l[7].Title = "\n" }, api.ErrLarge},
	} {
		w := stocked(versions("a", 1, 8)...)
		c.do(w.Packages)
		check(t, i, w, c.want)
	}
}

func TestP70Installed(t *testing.T) {
	for text, want := range map[string]api.Errno{
		"":                             api.OK,
		"app 1.0.0 core":               api.OK,
		"app 1.0.0":                    api.OK,
		"app 2.0.0, lib 1.0.0":         api.OK,
		"lib 3.0.0-a core":             api.OK,
		"tool 1.0.0 core words":        api.OK,
		"tool 1.0.0 core server":       api.OK,
		"tool 2.0.0 server core":       api.OK,
		"!app 1.0.0, !tool 2.0.0":      api.OK,
		"lib 1.0.0, app 1.0.0":         api.ErrOrder,
		"lib 1.0.0, lib 2.0.0":         api.ErrOrder,
		"lib 1.0.0, app 9.0.0 none":    api.ErrOrder,
		"none 1.0.0":                   api.ErrNone,
		"app 3.0.0":                    api.ErrNone,
		"lib 3.0.0-b":                  api.ErrNone,
		"app 1.0.0 none":               api.ErrNone,
		"app 1.0.0 words":              api.ErrNone,
		"tool 1.0.0 words core":        api.ErrOrder,
		"tool 2.0.0 core words":        api.ErrOrder,
		"tool 1.0.0 words words":       api.ErrOrder,
		"tool 1.0.0 words core none":   api.ErrOrder,
		"tool 1.0.0 none words core":   api.ErrNone,
		"tool 1.0.0 words none words":  api.ErrNone,
		"app 1.0.0 none, app 1.0.0":    api.ErrNone,
		"app 1.0.0 core core, x 1.0.0": api.ErrOrder,
		"app 9.0.0, app 1.0.0":         api.ErrNone,
	} {
		w := shop()
		w.Installed = installs(text)
		check(t, text, w, want)
	}
	w := shop()
	w.Installed = []api.Install{{}}
	check(t, "nothing", w, api.ErrNone)
	w.Installed = []api.Install{{Name: "app", Version: api.Version{Major: -1}}}
	check(t, "no version", w, api.ErrNone)
	w.Packages[8].Title = "\n"
	check(t, "a package is wrong", w, api.ErrForm)
}

func TestP70Facts(t *testing.T) {
	for i, c := range []struct {
		facts, settings []api.Setting
		want            api.Errno
	}{
		{nil, nil, api.OK},
		{pairs("cpu=x os=y"), pairs("A/b=x a=x"), api.OK},
		{pairs("a/b=x"), nil, api.ErrName},
		{pairs("os=y cpu=x"), nil, api.ErrOrder},
		{pairs("os=y os=y"), nil, api.ErrOrder},
		{[]api.Setting{{Key: "os", Value: "\n"}}, nil, api.ErrForm},
		{nil, pairs("/=x"), api.ErrName},
		{nil, pairs("b=x a=x"), api.ErrOrder},
		{nil, []api.Setting{{Key: "A/b", Value: "\n"}}, api.ErrForm},
		{[]api.Setting{{Key: "os", Value: "\n"}}, pairs("/=x"), api.ErrForm},
		{pairs("os=y os=y"), pairs("/=x"), api.ErrOrder},
	} {
		w := shop()
		w.Facts, w.Settings = c.facts, c.settings
		check(t, i, w, c.want)
		// They are looked at although there is nothing to be asked of them, and last.
		check(t, i, api.World{Facts: c.facts, Settings: c.settings}, c.want)
		w.Installed = installs("none 1.0.0")
		check(t, i, w, api.ErrNone)
		w.Packages[0].Title = "\n"
		check(t, i, w, api.ErrForm)
	}
}

func TestP70Find(t *testing.T) {
	w := shop()
	for i, p := range w.Packages {
		got, e := choose.Find(w, p.Name, p.Version)
		if !same(got, shop().Packages[i]) || e != api.OK {
			t.Errorf("Find(%s %v): %v, %d", p.Name, p.Version, got, e)
		}
	}
	for _, c := range []struct {
		name string
		v    api.Version
	}{
		{"app", number(3)}, {"App", number(1)}, {"", number(1)}, {"none", number(1)}, {"lib", api.Version{Major: 3, Early: "b"}},
		{"app", api.Version{Major: 1, Early: "a"}}, {"app", api.Version{Major: 1, Early: "?"}}, {"app", api.Version{Major: -1}},
	} {
		if got, e := choose.Find(w, c.name, c.v); !same(got, api.Package{}) || e != api.ErrNone {
			t.Errorf("Find(%s %v): %v, %d", c.name, c.v, got, e)
		}
	}
	if got, e := choose.Find(api.World{}, "app", number(1)); !same(got, api.Package{}) || e != api.ErrNone {
		t.Error(got, e)
	}
}
