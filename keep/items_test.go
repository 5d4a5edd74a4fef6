package keep_test

import (
	"testing"

	"outfitter/api"
	"outfitter/keep"
)

func TestP170CheckItem(t *testing.T) {
	file := func(kind int, f api.File) api.Item { return api.Item{Kind: kind, File: f} }
	set := func(key, value string) api.Item {
		return api.Item{Kind: api.ItemSetting, Setting: api.Setting{Key: key, Value: value}}
	}
	serve := func(s api.Service) api.Item { return api.Item{Kind: api.ItemService, Service: s} }
	with := func(x api.Item, f api.File, s api.Setting, v api.Service) api.Item {
		if f != (api.File{}) {
			x.File = f
		}
		if s != (api.Setting{}) {
			x.Setting = s
		}
		if v != (api.Service{}) {
			x.Service = v
		}
		return x
	}
	noFile, noSetting, noService := api.File{}, api.Setting{}, api.Service{}
	for i, c := range []struct {
		x    api.Item
		want api.Errno
	}{
		{api.Item{}, api.ErrKind},
		{file(-1, api.File{Path: "a"}), api.ErrKind},
		{file(7, api.File{Path: "?"}), api.ErrKind},
		{with(file(0, api.File{Path: "a"}), noFile, api.Setting{Key: "a"}, api.Service{Name: "a", Path: "a"}), api.ErrKind},

		{set("a/B", "1"), api.OK},
		{set("a", ""), api.OK},
		{set("a", long(1000)), api.OK},
		{set("", "1"), api.ErrName},
		{set("?", "\n"), api.ErrName},
		{set("a", "\n"), api.ErrForm},
		{set("a", long(1001)), api.ErrForm},
		{with(set("a", ""), api.File{Path: "a"}, noSetting, noService), api.ErrForm},
		{with(set("a", ""), api.File{Data: "a"}, noSetting, noService), api.ErrForm},
		{with(set("a", ""), api.File{Runs: true}, noSetting, noService), api.ErrForm},
		{with(set("a", ""), noFile, noSetting, api.Service{Name: "a"}), api.ErrForm},
		{with(set("a", ""), noFile, noSetting, api.Service{Path: "a"}), api.ErrForm},
		{with(set("a", ""), noFile, noSetting, api.Service{Auto: true}), api.ErrForm},
		{with(set("a", ""), noFile, noSetting, api.Service{On: true}), api.ErrForm},
		{with(set("?", ""), api.File{Path: "a"}, noSetting, noService), api.ErrName},

		{serve(api.Service{Name: "a", Path: "B/c", Auto: true}), api.OK},
		{serve(api.Service{Name: "a-b.c", Path: "a"}), api.OK},
		{serve(api.Service{Name: "A", Path: "a"}), api.ErrName},
		{serve(api.Service{Name: "a/b", Path: "a"}), api.ErrName},
		{serve(api.Service{Name: "a", Path: "?"}), api.ErrName},
		{serve(api.Service{Name: "a"}), api.ErrName},
		{serve(api.Service{Name: "a", Path: "a", On: true}), api.ErrForm},
		{serve(api.Service{Name: "a", Path: "a", Auto: true, On: true}), api.ErrForm},
		{serve(api.Service{Name: "a", Path: "?", On: true}), api.ErrName},
		{with(serve(api.Service{Name: "a", Path: "a"}), api.File{Path: "a"}, noSetting, noService), api.ErrForm},
		{with(serve(api.Service{Name: "a", Path: "a"}), api.File{Data: "a"}, noSetting, noService), api.ErrForm},
		{with(serve(api.Service{Name: "a", Path: "a"}), api.File{Runs: true}, noSetting, noService), api.ErrForm},
		{with(serve(api.Service{Name: "a", Path: "a"}), noFile, api.Setting{Key: "a"}, noService), api.ErrForm},
		{with(serve(api.Service{Name: "a", Path: "a"}), noFile, api.Setting{Value: "a"}, noService), api.ErrForm},
		{with(serve(api.Service{Name: "?", Path: "a"}), noFile, api.Setting{Value: "a"}, noService), api.ErrName},
	} {
		if e := keep.CheckItem(c.x); e != c.want {
			t.Errorf("CheckItem %d: %d, not %d", i, e, c.want)
		}
	}
	for kind := api.ItemProgram; kind <= api.ItemData; kind++ {
		for i, c := range []struct {
			x    api.Item
			want api.Errno
		}{
			{file(kind, api.File{Path: "a"}), api.OK},
			{file(kind, api.File{Path: "a/B", Data: long(api.MaxData), Runs: true}), api.OK},
			// That a file is one of package stage is looked at elsewhere.
			{file(kind, api.File{Path: "stage"}), api.OK},
			{file(kind, api.File{Path: "stage/a"}), api.OK},
			{file(kind, api.File{}), api.ErrName},
			{file(kind, api.File{Path: "a/", Data: long(api.MaxData + 1)}), api.ErrName},
			{file(kind, api.File{Path: "a", Data: long(api.MaxData + 1)}), api.ErrLarge},
			{with(file(kind, api.File{Path: "a"}), noFile, api.Setting{Key: "a"}, noService), api.ErrForm},
			{with(file(kind, api.File{Path: "a"}), noFile, api.Setting{Value: "a"}, noService), api.ErrForm},
			{with(file(kind, api.File{Path: "a"}), noFile, noSetting, api.Service{Name: "a"}), api.ErrForm},
			{with(file(kind, api.File{Path: "a"}), noFile, noSetting, api.Service{Path: "a"}), api.ErrForm},
			{with(file(kind, api.File{Path: "a"}), noFile, noSetting, api.Service{Auto: true}), api.ErrForm},
			{with(file(kind, api.File{Path: "a"}), noFile, noSetting, api.Service{On: true}), api.ErrForm},
			{with(file(kind, api.File{Path: "?"}), noFile, noSetting, api.Service{On: true}), api.ErrName},
			{with(file(kind, api.File{Path: "a", Data: long(api.MaxData + 1)}), noFile, noSetting, api.Service{On: true}), api.ErrLarge},
		} {
			if e := keep.CheckItem(c.x); e != c.want {
				t.Errorf("CheckItem %d, kind %d: %d, not %d", i, kind, e, c.want)
			}
		}
	}
}
