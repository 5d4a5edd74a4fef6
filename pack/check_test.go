package pack_test

import (
	"math/rand/v2"
	"slices"
	"strings"
	"testing"

	"outfitter/api"
	"outfitter/pack"
)

// fault is something bad in the package some, that is another's error than those beside it.
type fault struct {
	what string
	do   func(p *api.Package)
	want api.Errno
}

// faults are in the order in which Check tells of them.
func faults() []fault {
	tooMany := func(l []api.Need) []api.Need {
		for i := range api.MaxNeeds {
			l = append(l, api.Need{Name: numbered(i), Range: whole()})
		}
		return l
	}
	badRange := api.Range{Spans: []api.Span{{HasFrom: true}, {HasFrom: true}}}
	component := func(i int) func(p *api.Package) *api.Component {
		return func(p *api.Package) *api.Component { return &p.Components[i] }
	}
	core, server, words, plain := component(0), component(1), component(2), component(3)
	addItem := func(c *api.Component, x api.Item) { c.Items = append(c.Items, x) }
	addStep := func(c *api.Component, kind int, name, value string) {
		c.Steps = append(c.Steps, api.Step{Kind: kind, Name: name, Value: value})
	}
	return []fault{
		{"Name", func(p *api.Package) { p.Name = "Some" }, api.ErrName},
		{"Version", func(p *api.Package) { p.Version.Patch = -1 }, api.ErrRange},
		{"Title", func(p *api.Package) { p.Title = "\n" }, api.ErrForm},
		{"many needs", func(p *api.Package) { p.Needs = tooMany(p.Needs) }, api.ErrLarge},
		{"many bars", func(p *api.Package) { p.Bars = tooMany(p.Bars) }, api.ErrLarge},
		{"need: Name", func(p *api.Package) { p.Needs[0].Name = "" }, api.ErrName},
		{"need: Range", func(p *api.Package) { p.Needs[0].Range = badRange }, api.ErrOrder},
		{"need: its own", func(p *api.Package) { p.Needs[1].Name = "some" }, api.ErrLoop},
		{"need: twice", func(p *api.Package) { p.Needs[2].Name = "lib" }, api.ErrTwice},
		{"need: Range of another", func(p *api.Package) { p.Needs[2].Range.Spans = make([]api.Span, 11) }, api.ErrLarge},
		{"bar: Name", func(p *api.Package) { p.Bars[0].Name = "a/b" }, api.ErrName},
		{"bar: Range", func(p *api.Package) { p.Bars[0].Range = badRange }, api.ErrOrder},
		{"bar: its own", func(p *api.Package) { p.Bars[1].Name = "some" }, api.ErrLoop},
		{"bar: twice", func(p *api.Package) { p.Bars[2].Name = "lib" }, api.ErrTwice},
		{"bar: Range of another", func(p *api.Package) { p.Bars[2].Range.Spans = make([]api.Span, 11) }, api.ErrLarge},
		{"many components", func(p *api.Package) {
			for i := range api.MaxComponents {
				p.Components = append(p.Components, part(numbered(i)))
			}
		}, api.ErrLarge},
		{"component: Name", func(p *api.Package) { core(p).Name = "?" }, api.ErrName},
		{"component: Title", func(p *api.Package) { core(p).Title = "\xff" }, api.ErrForm},
		{"component: When", func(p *api.Package) { core(p).When = api.Cond{} }, api.ErrKind},
		{"component: its own need", func(p *api.Package) { core(p).Needs = []string{"?", "core"} }, api.ErrLoop},
		{"component: need twice", func(p *api.Package) { core(p).Needs = append(core(p).Needs, "words", "words") }, api.ErrTwice},
		{"item: Kind", func(p *api.Package) { core(p).Items[0].Kind = 7 }, api.ErrKind},
		{"item: path", func(p *api.Package) { core(p).Items[0].File.Path = "/" }, api.ErrName},
		{"item: Data", func(p *api.Package) { core(p).Items[0].File.Data = long(api.MaxData + 1) }, api.ErrLarge},
		{"item: not zero", func(p *api.Package) { core(p).Items[0].Service.Auto = true }, api.ErrForm},
		{"item: key", func(p *api.Package) { core(p).Items[2].Setting.Key = "" }, api.ErrName},
		{"item: value", func(p *api.Package) { core(p).Items[2].Setting.Value = "\t" }, api.ErrForm},
		{"step: Kind", func(p *api.Package) { core(p).Steps[0].Kind = 0 }, api.ErrKind},
		{"step: Name", func(p *api.Package) { core(p).Steps[0].Name = "?" }, api.ErrName},
		{"step: Value", func(p *api.Package) { core(p).Steps[1].Value = "x" }, api.ErrForm},
		{"step: denied", func(p *api.Package) { core(p).Steps[2].Name = "stage/x" }, api.ErrDenied},
		{"step: denied, Value", func(p *api.Package) { core(p).Steps[2].Value = "\n" }, api.ErrForm},
		{"component 1: twice", func(p *api.Package) { server(p).Name = "core" }, api.ErrTwice},
		{"component 1: Title", func(p *api.Package) { server(p).Title = long(1001) }, api.ErrForm},
		{"component 1: When", func(p *api.Package) { server(p).When.Name = "" }, api.ErrName},
		{"component 1: item: Kind", func(p *api.Package) { server(p).Items[0].Kind = 0 }, api.ErrKind},
		{"component 1: item: name", func(p *api.Package) { server(p).Items[0].Service.Name = "a/b" }, api.ErrName},
		{"component 1: item: On", func(p *api.Package) { server(p).Items[0].Service.On = true }, api.ErrForm},
		{"component 1: item: path", func(p *api.Package) { server(p).Items[3].Service.Path = "" }, api.ErrName},
		{"component 1: step: Kind", func(p *api.Package) { server(p).Steps[0].Kind = 7 }, api.ErrKind},
		{"component 1: step: Name", func(p *api.Package) { server(p).Steps[0].Name = "a/b" }, api.ErrName},
		{"component 1: step: denied", func(p *api.Package) { server(p).Steps[1].Name = "outfit" }, api.ErrDenied},
		{"component 1: step: Value", func(p *api.Package) { server(p).Steps[2].Value = " " }, api.ErrForm},
		{"component 3: its own need", func(p *api.Package) { plain(p).Needs = append(plain(p).Needs, "plain") }, api.ErrLoop},
		{"component 3: step", func(p *api.Package) { addStep(plain(p), api.StepSet, "a", "\n") }, api.ErrForm},
		{"loop", func(p *api.Package) { words(p).Needs = append(words(p).Needs, "server") }, api.ErrLoop},
		{"no such component", func(p *api.Package) { plain(p).Needs = append(plain(p).Needs, "none") }, api.ErrNone},
		{"place twice", func(p *api.Package) { addItem(plain(p), setting("server", "x")) }, api.ErrTwice},
		{"file below", func(p *api.Package) { addItem(core(p), data("lib/words/x", "")) }, api.ErrConflict},
		{"file denied", func(p *api.Package) { addItem(server(p), data("outfit/x", "")) }, api.ErrDenied},
		{"file below another", func(p *api.Package) {
			addItem(plain(p), data("new/x/y", ""))
			addItem(plain(p), data("new", ""))
		}, api.ErrConflict},
		{"no such file", func(p *api.Package) { addItem(words(p), service("new", "bin/app")) }, api.ErrNone},
		{"many moves", func(p *api.Package) { p.Moves = append(p.Moves, make([]api.Move, api.MaxMoves)...) }, api.ErrLarge},
		{"move: From", func(p *api.Package) { p.Moves[0].From = badRange }, api.ErrOrder},
		{"move: To", func(p *api.Package) { p.Moves[0].To.Early = "?" }, api.ErrForm},
		{"many rules", func(p *api.Package) { p.Moves[0].Rules = append(p.Moves[0].Rules, make([]string, api.MaxRules)...) }, api.ErrLarge},
		{"rule", func(p *api.Package) { p.Moves[0].Rules[0] = "\n" }, api.ErrForm},
		{"move 1: From", func(p *api.Package) { p.Moves[1].From = badRange }, api.ErrOrder},
		{"move 1: To", func(p *api.Package) { p.Moves[1].To.Major = api.MaxNumber + 1 }, api.ErrRange},
		{"move 1: rule", func(p *api.Package) { p.Moves[1].Rules = append(p.Moves[1].Rules, "a", "") }, api.ErrForm},
		{"many bytes", func(p *api.Package) {
			for i := range 8 {
				addItem(plain(p), data(numbered(i), long(api.MaxData)))
			}
		}, api.ErrLarge},
	}
}

// TestP45Order has each fault alone, and each two of them: the one that is mentioned first decides.
func TestP45Order(t *testing.T) {
	check(t, "some", some(), api.OK)
	l := faults()
	for i, first := range l {
		p := some()
		first.do(&p)
		check(t, first.what, p, first.want)
		for _, second := range l[i+1:] {
			p := some()
			// The later one is done first, so that an earlier one that takes the same field stands.
			second.do(&p)
			first.do(&p)
			check(t, first.what+", "+second.what, p, first.want)
		}
	}
}

func TestP45Empty(t *testing.T) {
	check(t, "none", api.Package{}, api.ErrName)
	p := api.Package{Name: "a"}
	check(t, "no components", p, api.ErrEmpty)
	p.Moves = make([]api.Move, 21)
	check(t, "no components, many moves", p, api.ErrEmpty)
	p.Needs = []api.Need{{Name: "a"}}
	check(t, "no components, own need", p, api.ErrLoop)
	check(t, "small", small(part("a")), api.OK)
}

// TestP45Limits has as much as there may be.
func TestP45Limits(t *testing.T) {
	p := api.Package{Name: long(40), Title: long(1000)}
	for i := range api.MaxNeeds {
		p.Needs = append(p.Needs, api.Need{Name: numbered(i)})
		p.Bars = append(p.Bars, api.Need{Name: numbered(i), Range: whole()})
	}
	for i := range api.MaxComponents {
		p.Components = append(p.Components, part(numbered(i)))
		for j := range i {
			p.Components[i].Needs = append(p.Components[i].Needs, numbered(j))
		}
	}
	for range api.MaxMoves {
		p.Moves = append(p.Moves, api.Move{From: whole(), Rules: slices.Repeat([]string{long(1000)}, api.MaxRules)})
	}
	for i := range 8 {
		p.Components[i].Items = []api.Item{data(numbered(i), long(api.MaxData))}
	}
	check(t, "all", p, api.OK)
	p.Components[9].Items = []api.Item{data("x", "")}
	check(t, "an empty file more", p, api.OK)
	p.Components[9].Items[0].File.Data = "x"
	check(t, "a byte more", p, api.ErrLarge)
	p.Components[9].Items = []api.Item{setting("x", "x"), setting("y", "y")}
	check(t, "settings are no files", p, api.OK)
}

func TestP45Others(t *testing.T) {
	for i, c := range []struct {
		needs, bars []api.Need
		want        api.Errno
	}{
		{[]api.Need{{Name: "a"}, {Name: "b"}}, []api.Need{{Name: "b"}, {Name: "a"}}, api.OK},
		{[]api.Need{{Name: "a"}, {Name: "b"}, {Name: "a"}}, nil, api.ErrTwice},
		{nil, []api.Need{{Name: "a"}, {Name: "b"}, {Name: "a"}}, api.ErrTwice},
		{[]api.Need{{Name: "a"}, {Name: "small"}}, nil, api.ErrLoop},
		{[]api.Need{{Name: "a"}, {Name: "a/b"}}, nil, api.ErrName},
		{[]api.Need{{Name: "a"}, {Name: "a", Range: api.Range{Spans: make([]api.Span, 11)}}}, nil, api.ErrTwice},
		{[]api.Need{{Name: "a", Range: api.Range{Spans: []api.Span{{From: number(1)}}}}}, nil, api.ErrForm},
		{nil, []api.Need{{Name: "a", Range: api.Range{Spans: []api.Span{{HasTo: true, To: number(-1)}}}}}, api.ErrRange},
		// Too many of either come ahead of the first bad one.
		{[]api.Need{{Name: "?"}}, make([]api.Need, 21), api.ErrLarge},
		{make([]api.Need, 21), nil, api.ErrLarge},
		{make([]api.Need, 20), nil, api.ErrName},
		{nil, make([]api.Need, 20), api.ErrName},
	} {
		p := small(part("a"))
		p.Needs, p.Bars = c.needs, c.bars
		check(t, i, p, c.want)
	}
}

func TestP45Items(t *testing.T) {
	file := api.File{Path: "a", Data: "x", Runs: true}
	for i, c := range []struct {
		x    api.Item
		want api.Errno
	}{
		{api.Item{}, api.ErrKind},
		{api.Item{Kind: -1}, api.ErrKind},
		{api.Item{Kind: 7}, api.ErrKind},
		{program("a", ""), api.OK},
		{shared("A/b", long(api.MaxData)), api.OK},
		{textual("a/..", ""), api.ErrName},
		{data("", long(api.MaxData+1)), api.ErrName},
		{data("a", long(api.MaxData+1)), api.ErrLarge},
		{api.Item{Kind: api.ItemProgram, File: file}, api.OK},
		{api.Item{Kind: api.ItemShared, File: file}, api.OK},
		{api.Item{Kind: api.ItemText, File: file}, api.OK},
		{api.Item{Kind: api.ItemData, File: file}, api.OK},
		{api.Item{Kind: api.ItemProgram, File: file, Setting: pair("a", "")}, api.ErrForm},
		{api.Item{Kind: api.ItemShared, File: file, Setting: pair("", "\n")}, api.ErrForm},
		{api.Item{Kind: api.ItemText, File: file, Service: api.Service{Path: "a"}}, api.ErrForm},
		{api.Item{Kind: api.ItemData, File: file, Service: api.Service{On: true}}, api.ErrForm},
		{setting("a/B", ""), api.OK},
		{setting("?", "\n"), api.ErrName},
		{setting("a", "\n"), api.ErrForm},
		{setting("a", long(1001)), api.ErrForm},
		{api.Item{Kind: api.ItemSetting, Setting: pair("a", ""), File: api.File{Runs: true}}, api.ErrForm},
		{api.Item{Kind: api.ItemSetting, Setting: pair("a", ""), Service: api.Service{Name: "a"}}, api.ErrForm},
		{api.Item{Kind: api.ItemSetting, File: file}, api.ErrName},
		{service("a", "f"), api.OK},
		{api.Item{Kind: api.ItemService, Service: api.Service{Name: "a", Path: "f"}}, api.OK},
		{api.Item{Kind: api.ItemService, Service: api.Service{Name: "a", Path: "f", On: true}}, api.ErrForm},
		{api.Item{Kind: api.ItemService, Service: api.Service{Name: "A", Path: "f", On: true}}, api.ErrName},
		{api.Item{Kind: api.ItemService, Service: api.Service{Name: "a", Path: "/", On: true}}, api.ErrName},
		{api.Item{Kind: api.ItemService, Service: api.Service{Name: "a", Path: "f"}, File: api.File{Data: "x"}}, api.ErrForm},
		{api.Item{Kind: api.ItemService, Service: api.Service{Name: "a", Path: "f"}, Setting: pair("", "x")}, api.ErrForm},
	} {
		check(t, i, small(having("a", data("f", ""), c.x)), c.want)
	}
}

func TestP45Steps(t *testing.T) {
	for i, c := range []struct {
		s    api.Step
		want api.Errno
	}{
		{api.Step{}, api.ErrKind},
		{api.Step{Kind: -1, Name: "a"}, api.ErrKind},
		{api.Step{Kind: 7, Name: "?", Value: "\n"}, api.ErrKind},
		{api.Step{Kind: api.StepSet, Name: "A/b", Value: long(1000)}, api.OK},
		{api.Step{Kind: api.StepSet, Name: "stage"}, api.OK},
		{api.Step{Kind: api.StepSet, Name: "outfit/x"}, api.OK},
		{api.Step{Kind: api.StepSet}, api.ErrName},
		{api.Step{Kind: api.StepSet, Name: "/", Value: "\n"}, api.ErrName},
		{api.Step{Kind: api.StepSet, Name: "a", Value: "\n"}, api.ErrForm},
		{api.Step{Kind: api.StepSet, Name: "a", Value: long(1001)}, api.ErrForm},
		{api.Step{Kind: api.StepUnset, Name: "A/b"}, api.OK},
		{api.Step{Kind: api.StepUnset, Name: "stage/x"}, api.OK},
		{api.Step{Kind: api.StepUnset, Name: "a", Value: "x"}, api.ErrForm},
		{api.Step{Kind: api.StepUnset, Name: "?"}, api.ErrName},
		{api.Step{Kind: api.StepWrite, Name: "A/b", Value: "x"}, api.OK},
		{api.Step{Kind: api.StepWrite, Name: "a"}, api.OK},
		{api.Step{Kind: api.StepWrite, Name: "stage"}, api.ErrDenied},
		{api.Step{Kind: api.StepWrite, Name: "stage/x/y", Value: "\n"}, api.ErrDenied},
		{api.Step{Kind: api.StepWrite, Name: "outfit"}, api.ErrDenied},
		{api.Step{Kind: api.StepWrite, Name: "outfit/x"}, api.ErrDenied},
		{api.Step{Kind: api.StepWrite, Name: "stage/"}, api.ErrName},
		{api.Step{Kind: api.StepWrite, Name: "stages"}, api.OK},
		{api.Step{Kind: api.StepWrite, Name: "stage.x/x"}, api.OK},
		{api.Step{Kind: api.StepWrite, Name: "Stage"}, api.OK},
		{api.Step{Kind: api.StepWrite, Name: "a/outfit"}, api.OK},
		{api.Step{Kind: api.StepWrite, Name: "a", Value: "\n"}, api.ErrForm},
		{api.Step{Kind: api.StepErase, Name: "A/b"}, api.OK},
		{api.Step{Kind: api.StepErase, Name: "a", Value: "x"}, api.ErrForm},
		{api.Step{Kind: api.StepErase, Name: "outfit", Value: "x"}, api.ErrDenied},
		{api.Step{Kind: api.StepErase, Name: "stage/x"}, api.ErrDenied},
		{api.Step{Kind: api.StepStart, Name: "a"}, api.OK},
		{api.Step{Kind: api.StepStart, Name: "stage"}, api.OK},
		{api.Step{Kind: api.StepStart, Name: "A"}, api.ErrName},
		{api.Step{Kind: api.StepStart, Name: "a/b"}, api.ErrName},
		{api.Step{Kind: api.StepStart, Name: "a", Value: "x"}, api.ErrForm},
		{api.Step{Kind: api.StepStop, Name: "a"}, api.OK},
		{api.Step{Kind: api.StepStop, Name: "outfit"}, api.OK},
		{api.Step{Kind: api.StepStop, Name: "a_b"}, api.ErrName},
		{api.Step{Kind: api.StepStop, Name: "a", Value: "x"}, api.ErrForm},
	} {
		p := small(part("a"))
		p.Components[0].Steps = []api.Step{c.s}
		check(t, i, p, c.want)
	}
}

func TestP45Links(t *testing.T) {
	for i, c := range []struct {
		p    api.Package
		want api.Errno
	}{
		{small(part("a", "b"), part("b")), api.OK},
		{small(part("a", "b", "c"), part("b", "c"), part("c")), api.OK},
		{small(part("a", "a")), api.ErrLoop},
		{small(part("a", "b", "b"), part("b")), api.ErrTwice},
		{small(part("a", "b", "a", "b"), part("b")), api.ErrLoop},
		{small(part("a", "x", "x")), api.ErrTwice},
		{small(part("a", "x")), api.ErrNone},
		{small(part("a", ""), part("b")), api.ErrNone},
		{small(part("a", "b"), part("b", "a")), api.ErrLoop},
		{small(part("a", "b"), part("b", "c"), part("c", "d"), part("d", "a")), api.ErrLoop},
		{small(part("a", "b"), part("b", "c"), part("c", "b")), api.ErrLoop},
		// The first bad component decides, and what it needs that is not there comes first.
		{small(part("a", "b", "x"), part("b", "a")), api.ErrNone},
		{small(part("a", "b"), part("b", "a", "x")), api.ErrLoop},
		{small(part("a", "b"), part("b", "x"), part("c", "d"), part("d", "c")), api.ErrNone},
		{small(part("a", "b"), part("b", "c"), part("c", "b", "x")), api.ErrLoop},
		{small(part("a", "b"), part("b", "x", "c"), part("c", "b")), api.ErrNone},
	} {
		check(t, i, c.p, c.want)
	}
}

func TestP45Places(t *testing.T) {
	f, other := func(paths ...string) []api.Item {
		var l []api.Item
		for _, path := range paths {
			l = append(l, data(path, ""))
		}
		return l
	}, having("other", shared("a", ""), setting("a", ""), service("a", "a"))
	for i, c := range []struct {
		l    []api.Item
		want api.Errno
	}{
		{f("b"), api.OK},
		{f("a"), api.ErrTwice},
		{[]api.Item{shared("a", "")}, api.ErrTwice},
		{[]api.Item{setting("a", "x")}, api.ErrTwice},
		{[]api.Item{setting("b", "x"), setting("b", "x")}, api.ErrTwice},
		{[]api.Item{setting("a/b", ""), setting("a/b/c", "")}, api.OK},
		{append(f("b"), service("a", "b")), api.ErrTwice},
		{append(f("b"), service("b", "b"), setting("b", "")), api.OK},
		{append(f("b"), service("b", "b"), service("b", "b")), api.ErrTwice},
		{f("a/b"), api.ErrConflict},
		{f("a/b/c/d"), api.ErrConflict},
		{f("b/c", "b"), api.ErrConflict},
		{f("b", "b/c"), api.ErrConflict},
		{f("b/c/d", "b/c"), api.ErrConflict},
		{f("a-b", "a.b/c", "b/a", "aa", "A/a"), api.OK},
		{f("b", "b/c", "b"), api.ErrTwice},
		{f("stage"), api.ErrDenied},
		{f("stage/a"), api.ErrDenied},
		{f("stage/a/b"), api.ErrDenied},
		{f("outfit"), api.ErrDenied},
		{f("outfit/a"), api.ErrDenied},
		{f("stages", "outfits/a", "stage-", "outfit.a/b", "x/stage", "x/outfit/y", "Stage/x", "OUTFIT"), api.OK},
		{[]api.Item{setting("stage", ""), setting("outfit/x", "")}, api.OK},
		{append(f("b"), service("stage", "b"), service("outfit", "b")), api.OK},
		// The first bad file decides, and what is beside others comes first.
		{f("stage", "stage/a"), api.ErrConflict},
		{f("outfit", "b", "b/c"), api.ErrDenied},
		{f("b", "b/c", "outfit"), api.ErrConflict},
		{f("outfit", "x/y", "b", "x/y"), api.ErrTwice},
		{append(f("outfit"), service("b", "none")), api.ErrDenied},
		{append(f("outfit"), setting("a", "")), api.ErrTwice},
		{append(f("b"), setting("a/b", ""), setting("a", "")), api.ErrTwice},
	} {
		check(t, i, small(other, having("x", c.l...)), c.want)
	}
}

func TestP45Services(t *testing.T) {
	with := func(c api.Component, needs ...string) api.Component {
		c.Needs = needs
		return c
	}
	for i, c := range []struct {
		p    api.Package
		want api.Errno
	}{
		{small(having("a", service("x", "f"), data("f", ""))), api.OK},
		{small(having("a", service("x", "f"), setting("f", ""))), api.ErrNone},
		{small(having("a", service("x", "f"), data("f/g", ""))), api.ErrNone},
		{small(having("a", service("f", "f"))), api.ErrNone},
		{small(having("a", service("x", "f")), having("b", data("f", ""))), api.ErrNone},
		{small(with(having("a", service("x", "f")), "b"), having("b", data("f", ""))), api.OK},
		{small(with(having("a", service("x", "f")), "b"), part("b", "c"), having("c", program("f", ""))), api.OK},
		{small(with(having("a", service("x", "f")), "b"), part("b"), having("c", program("f", ""))), api.ErrNone},
		{small(having("a", service("x", "f")), with(having("b", data("f", "")), "a")), api.ErrNone},
		{small(with(having("a", service("x", "f"), service("y", "g")), "b"), having("b", textual("f", ""))), api.ErrNone},
	} {
		check(t, i, c.p, c.want)
	}
	// A component that is always there is not needed for this.
	p := small(having("a", service("x", "f")), having("b", data("f", "")))
	p.Components[1].Always = true
	check(t, "always", p, api.ErrNone)
}

func TestP45Moves(t *testing.T) {
	for i, c := range []struct {
		m    api.Move
		want api.Errno
	}{
		{api.Move{}, api.OK},
		{api.Move{Rules: []string{" ", "~", long(1000), "nonsense", " "}}, api.OK},
		{api.Move{Rules: []string{""}}, api.ErrForm},
		{api.Move{Rules: []string{"a", "\x7f"}}, api.ErrForm},
		{api.Move{Rules: []string{long(1001)}}, api.ErrForm},
		{api.Move{Rules: slices.Repeat([]string{"a"}, 101)}, api.ErrLarge},
		{api.Move{Rules: make([]string, 101)}, api.ErrLarge},
		{api.Move{To: number(-1), Rules: make([]string, 101)}, api.ErrRange},
		{api.Move{From: api.Range{Spans: make([]api.Span, 11)}, To: number(-1)}, api.ErrLarge},
		{api.Move{To: api.Version{Early: "-"}}, api.ErrForm},
	} {
		p := small(part("a"))
		p.Moves = []api.Move{{}, c.m}
		check(t, i, p, c.want)
	}
}

func TestP45Component(t *testing.T) {
	for _, c := range some().Components {
		if got, e := pack.Component(some(), c.Name); !same(got, c) || e != api.OK {
			t.Errorf("%s: %v, %d", c.Name, got, e)
		}
	}
	for _, name := range []string{"", "none", "Core", "core ", "?", "some"} {
		if got, e := pack.Component(some(), name); !same(got, api.Component{}) || e != api.ErrNone {
			t.Errorf("%q: %v, %d", name, got, e)
		}
	}
	if got, e := pack.Component(wrong(), "?"); !same(got, api.Component{}) || e != api.ErrName {
		t.Error(got, e)
	}
}

// modelOf is Check for what packages made by chance can have wrong, in plain words.
func modelOf(p api.Package) api.Errno {
	needs := map[string][]string{}
	for _, c := range p.Components {
		needs[c.Name] = c.Needs
		if slices.Contains(c.Needs, c.Name) {
			return api.ErrLoop
		}
	}
	for _, c := range p.Components {
		for _, name := range c.Needs {
			if _, there := needs[name]; !there {
				return api.ErrNone
			}
		}
		for _, name := range c.Needs {
			if slices.Contains(reach(needs, name), c.Name) {
				return api.ErrLoop
			}
		}
	}
	var all, files, services []api.Item
	var owners []string // of services
	for _, c := range p.Components {
		for _, x := range c.Items {
			for _, y := range all {
				if placeOf(x) == placeOf(y) {
					return api.ErrTwice
				}
			}
			all = append(all, x)
			switch x.Kind {
			case api.ItemService:
				services = append(services, x)
				owners = append(owners, c.Name)
			case api.ItemSetting:
			default:
				files = append(files, x)
			}
		}
	}
	for _, x := range files {
		for _, y := range files {
			if strings.HasPrefix(x.File.Path, y.File.Path+"/") || strings.HasPrefix(y.File.Path, x.File.Path+"/") {
				return api.ErrConflict
			}
		}
	}
	for i, s := range services {
		there := false
		for _, c := range p.Components {
			if slices.Contains(reach(needs, owners[i]), c.Name) {
				there = there || slices.ContainsFunc(c.Items, func(x api.Item) bool { return placeOf(x) == "1"+s.Service.Path })
			}
		}
		if !there {
			return api.ErrNone
		}
	}
	return api.OK
}

// reach is a name, and all that is needed by it, by way of all that has been reached.
func reach(needs map[string][]string, name string) []string {
	l := []string{name}
	for i := 0; i < len(l); i++ {
		for _, other := range needs[l[i]] {
			if !slices.Contains(l, other) {
				l = append(l, other)
			}
		}
	}
	return l
}

// placeOf is the place of an item: places stand in the order of Items.
func placeOf(x api.Item) string {
	switch x.Kind {
	case api.ItemSetting:
		return "2" + x.Setting.Key
	case api.ItemService:
		return "3" + x.Service.Name
	}
	return "1" + x.File.Path
}

// TestP45Chance checks packages made by chance.
func TestP45Chance(t *testing.T) {
	rnd := rand.New(rand.NewPCG(1, 2))
	count := map[api.Errno]int{}
	for range 20000 {
		p := guess(rnd)
		want := modelOf(p)
		count[want]++
		if e := pack.Check(p); e != want {
			t.Fatal(p, e, want)
		}
	}
	for _, e := range []api.Errno{api.OK, api.ErrLoop, api.ErrNone, api.ErrTwice, api.ErrConflict} {
		if count[e] < 100 {
			t.Error("too few", e, count[e])
		}
	}
}
