package keep_test

import (
	"slices"
	"strconv"
	"strings"
	"testing"

	"outfitter/api"
	"outfitter/disk"
	"outfitter/keep"
)

// some is a keep with some of everything.
func some() api.Keep {
	return keeping(`
		app program+ bin/app "one"
		app text etc/conf "a\nb\n"
		app shared lib/x "x"
		app data var/app "1"
		app setting size "2"
		app service appd "bin/app"
		base text+ etc/base ""
		base shared lib/x "x"
		base data lib/y ""
		base setting a/size ""
		base service+ based "bin/app"
		c.d shared lib/x "x"
	`)
}

// sum is a sum of a thing of another kind than text.
const sum = "0123456789abcdef"

func TestP171Check(t *testing.T) {
	held := func(owner string, kind int, path string) api.Held {
		return api.Held{Owner: owner, Kind: kind, Path: path, Sum: sum}
	}
	text := func(sum, base string) api.Held {
		return api.Held{Owner: "a", Kind: api.ItemText, Path: "a", Sum: sum, Base: base}
	}
	based := held("a", api.ItemData, "a")
	based.Base = "x"
	other := held("b", api.ItemShared, "a")
	other.Sum = strings.Repeat("0", 16)
	l := func(l ...api.Held) []api.Held { return l }
	for i, c := range []struct {
		l    []api.Held
		want api.Errno
	}{
		{nil, api.OK},
		{some().Held, api.OK},
		{l(held("", 0, "")), api.ErrName},
		{l(held("A", 0, "")), api.ErrName},
		{l(held("a/b", 1, "a")), api.ErrName},
		{l(held(long(41), 1, "a")), api.ErrName},
		{l(held(long(40), 1, "a")), api.OK},
		{l(held("a", 0, "")), api.ErrKind},
		{l(held("a", -1, "a")), api.ErrKind},
		{l(held("a", 7, "a")), api.ErrKind},
		{l(api.Held{Owner: "a", Kind: api.ItemData, Path: ""}), api.ErrName},
		{l(api.Held{Owner: "a", Kind: api.ItemText, Path: "a/"}), api.ErrName},
		{l(held("a", api.ItemProgram, longPath(200))), api.OK},
		{l(held("a", api.ItemProgram, longPath(201))), api.ErrName},
		{l(held("a", api.ItemSetting, "A/b")), api.OK},
		{l(held("a", api.ItemSetting, "A//b")), api.ErrName},
		{l(held("a", api.ItemService, "b-1")), api.OK},
		{l(held("a", api.ItemService, "b/1")), api.ErrName},
		{l(held("a", api.ItemService, "B")), api.ErrName},
		{l(held("a", api.ItemShared, "stage")), api.OK},
		{l(held("a", api.ItemShared, "stage/a")), api.OK},
		{l(based), api.ErrForm},
		{l(text(disk.SumOf("-"), "")), api.OK},
		{l(text(disk.SumOf("r"), "")), api.OK},
		{l(text(disk.SumOf("-\x00\n"), "\x00\n")), api.OK},
		{l(text(disk.SumOf("r\x00\n"), "\x00\n")), api.OK},
		{l(text(disk.SumOf("-"+long(1<<17)), long(1<<17))), api.OK},
		{l(text(disk.SumOf("a"), "")), api.ErrForm},
		{l(text(disk.SumOf("-b"), "a")), api.ErrForm},
		{l(text(disk.SumOf("a"), "a")), api.ErrForm},
		{l(text(sum, "")), api.ErrForm},
		{l(text("", "")), api.ErrForm},
		{l(text(strings.ToUpper(disk.SumOf("-")), "")), api.ErrForm},
		// Behind each other: by owner, kind of thing, path.
		{l(held("a", 1, "a"), held("a", 1, "a")), api.ErrOrder},
		{l(held("a", 1, "b"), held("a", 1, "a")), api.ErrOrder},
		{l(held("a", 1, "a"), held("a", 4, "a")), api.ErrOrder},
		{l(held("a", 4, "a"), held("a", 1, "a")), api.ErrOrder},
		{l(held("a", 4, "a"), held("a", 1, "b")), api.OK},
		{l(held("a", 1, "b"), held("a", 4, "a")), api.ErrOrder},
		{l(held("a", 1, "z"), held("a", 5, "a"), held("a", 6, "a")), api.OK},
		{l(held("a", 5, "a"), held("a", 1, "z")), api.ErrOrder},
		{l(held("a", 6, "a"), held("a", 5, "z")), api.ErrOrder},
		{l(held("a", 6, "a"), held("a", 4, "z")), api.ErrOrder},
		{l(held("a", 6, "b"), held("a", 6, "b")), api.ErrOrder},
		{l(held("b", 1, "a"), held("a", 6, "z")), api.ErrOrder},
		{l(held("a", 6, "z"), held("b", 1, "a")), api.OK},
		{l(held("a", 1, "a.b"), held("a", 1, "a/b"), held("a", 1, "aB")), api.OK},
		{l(held("a", 1, "a"), held("a", 1, "a/b")), api.OK},
		// By several owners.
		{l(held("a", 2, "a"), held("b", 2, "a"), held("c", 2, "a")), api.OK},
		{l(held("a", 2, "a"), held("b", 1, "a")), api.ErrConflict},
		{l(held("a", 1, "a"), held("b", 2, "a")), api.ErrConflict},
		{l(held("a", 1, "a"), held("b", 1, "a")), api.ErrConflict},
		{l(held("a", 4, "a"), held("b", 2, "a")), api.ErrConflict},
		{l(held("a", 5, "a"), held("b", 5, "a")), api.ErrConflict},
		{l(held("a", 6, "a"), held("b", 6, "a")), api.ErrConflict},
		{l(held("a", 2, "a"), other), api.ErrConflict},
		{l(held("a", 1, "a"), held("b", 5, "a"), held("c", 6, "a")), api.OK},
		{l(held("a", 2, "a"), held("b", 2, "a"), held("c", 4, "a")), api.ErrConflict},
		// The first bad one decides; who holds the same place comes behind all else.
		{l(held("a", 1, "b"), held("a", 1, "a"), held("a", 0, "a")), api.ErrOrder},
		{l(held("a", 1, "b"), held("a", 0, "a")), api.ErrKind},
		{l(held("b", 1, "b"), api.Held{Owner: "a", Kind: 1, Path: "a"}), api.ErrForm},
		{l(held("a", 1, "a"), held("b", 1, "a"), held("c", 0, "a")), api.ErrKind},
		{l(held("a", 1, "a"), held("b", 1, "a"), held("a", 1, "b")), api.ErrOrder},
	} {
		if e := keep.Check(api.Keep{Held: c.l}); e != c.want {
			t.Errorf("Check %d: %d, not %d", i, e, c.want)
		}
	}
	_, k, _ := full("a", api.MaxHeld)
	if e := keep.Check(k); e != api.OK {
		t.Error(e)
	}
	if e := keep.Check(api.Keep{Held: make([]api.Held, api.MaxHeld)}); e != api.ErrName {
		t.Error(e)
	}
	if e := keep.Check(api.Keep{Held: make([]api.Held, api.MaxHeld+1)}); e != api.ErrLarge {
		t.Error(e)
	}
}

// TestP171Sum has sums of other kinds than text: what they are of is not known.
func TestP171Sum(t *testing.T) {
	for sum, want := range map[string]api.Errno{
		sum:                       api.OK,
		"0000000000000000":        api.OK,
		"ffffffffffffffff":        api.OK,
		"9999999999999999":        api.OK,
		"":                        api.ErrForm,
		"0123456789abcde":         api.ErrForm,
		"0123456789abcdef0":       api.ErrForm,
		"0123456789abcdeF":        api.ErrForm,
		"A123456789abcdef":        api.ErrForm,
		"0123456789abcdeg":        api.ErrForm,
		"g123456789abcdef":        api.ErrForm,
		"0123456g89abcdef":        api.ErrForm,
		"0123456 89abcdef":        api.ErrForm,
		" 123456789abcdef":        api.ErrForm,
		"0123456789abcde\n":       api.ErrForm,
		"-123456789abcdef":        api.ErrForm,
		"0x23456789abcdef":        api.ErrForm,
		"0123456789abcd\u00e9":    api.ErrForm,
		"\x000123456789abcde":     api.ErrForm,
		strings.Repeat("/", 16):   api.ErrForm,
		strings.Repeat(":", 16):   api.ErrForm,
		strings.Repeat("`", 16):   api.ErrForm,
		strings.Repeat(sum, 1000): api.ErrForm,
	} {
		for _, kind := range []int{api.ItemProgram, api.ItemShared, api.ItemData, api.ItemSetting, api.ItemService} {
			k := api.Keep{Held: []api.Held{{Owner: "a", Kind: kind, Path: "a", Sum: sum}}}
			if e := keep.Check(k); e != want {
				t.Errorf("%q: %d, not %d", sum, e, want)
			}
			k.Held[0].Base = "x"
			if e := keep.Check(k); e != api.ErrForm {
				t.Errorf("%q: %d with a Base", sum, e)
			}
		}
	}
}

func TestP171Owners(t *testing.T) {
	k := some()
	for i, c := range []struct {
		kind int
		path string
		want []string
		e    api.Errno
	}{
		{api.ItemShared, "lib/x", []string{"app", "base", "c.d"}, api.OK},
		{api.ItemProgram, "lib/x", []string{"app", "base", "c.d"}, api.OK},
		{api.ItemText, "lib/x", []string{"app", "base", "c.d"}, api.OK},
		{api.ItemData, "bin/app", []string{"app"}, api.OK},
		{api.ItemShared, "lib/y", []string{"base"}, api.OK},
		{api.ItemSetting, "lib/x", nil, api.OK},
		{api.ItemSetting, "size", []string{"app"}, api.OK},
		{api.ItemSetting, "a/size", []string{"base"}, api.OK},
		{api.ItemProgram, "size", nil, api.OK},
		{api.ItemService, "size", nil, api.OK},
		{api.ItemService, "based", []string{"base"}, api.OK},
		{api.ItemSetting, "based", nil, api.OK},
		{api.ItemProgram, "bin", nil, api.OK},
		{api.ItemProgram, "bin/app/x", nil, api.OK},
		{0, "lib/x", nil, api.ErrKind},
		{7, "", nil, api.ErrKind},
		{-1, "lib/x", nil, api.ErrKind},
		{api.ItemProgram, "", nil, api.ErrName},
		{api.ItemSetting, "a/", nil, api.ErrName},
		{api.ItemService, "lib/x", nil, api.ErrName},
		{api.ItemService, "Based", nil, api.ErrName},
		{api.ItemData, longPath(201), nil, api.ErrName},
	} {
		if l, e := keep.Owners(k, c.kind, c.path); !slices.Equal(l, c.want) || e != c.e {
			t.Errorf("Owners %d: %v, %d", i, l, e)
		}
		if l, e := keep.Owners(wrongKeep(), c.kind, c.path); len(l) != 0 || e != api.ErrKind {
			t.Errorf("Owners %d of what is no keep: %v, %d", i, l, e)
		}
	}
	if l, e := keep.Owners(api.Keep{Held: make([]api.Held, 1)}, 0, ""); len(l) != 0 || e != api.ErrName {
		t.Error(l, e)
	}
	var many api.Keep
	var owners []string
	for i := range api.MaxHeld {
		owners = append(owners, "o"+strconv.Itoa(10000+i))
		many.Held = append(many.Held, api.Held{Owner: owners[i], Kind: api.ItemShared, Path: "a", Sum: sum})
	}
	if l, e := keep.Owners(many, api.ItemShared, "a"); !slices.Equal(l, owners) || e != api.OK {
		t.Error(len(l), e)
	}
}

func TestP171Things(t *testing.T) {
	k := some()
	for i, c := range []struct {
		owner string
		want  []api.Held
		e     api.Errno
	}{
		{"app", k.Held[:6], api.OK},
		{"base", k.Held[6:11], api.OK},
		{"c.d", k.Held[11:], api.OK},
		{"c", nil, api.OK},
		{"appd", nil, api.OK},
		{"ap", nil, api.OK},
		{"", nil, api.ErrName},
		{"App", nil, api.ErrName},
		{"app/", nil, api.ErrName},
	} {
		if l, e := keep.Things(k, c.owner); !slices.Equal(l, c.want) || e != c.e {
			t.Errorf("Things %d: %v, %d", i, l, e)
		}
		if l, e := keep.Things(wrongKeep(), c.owner); len(l) != 0 || e != api.ErrKind {
			t.Errorf("Things %d of what is no keep: %v, %d", i, l, e)
		}
	}
}
