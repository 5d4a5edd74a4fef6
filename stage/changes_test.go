package stage_test

import (
	"testing"

	"outfitter/api"
	"outfitter/stage"
)

func TestP120Clean(t *testing.T) {
	bare := machine(`fact stage "x"`, `file a/stage/x "1"`, `file stage-/x "2"`, `file stage.x "3"`, `file stages/x "4"`, `set stage/x "5"`, `service stage stage/x 1 1`)
	all := with(bare, put("stage/x", "6"), put("stage/y/z", ""), put("stage/journal", "7"), put("stage/done", ""), put("stage/back", ""))
	for i, c := range []struct {
		m, clean api.Machine
		staged   bool
	}{
		{api.Machine{}, api.Machine{}, false},
		{bare, bare, false},
		{all, bare, true},
		{before(), before(), false},
		{with(before(), put("stage/x", "")), before(), true},
		{with(before(), put("stage/journal", "")), before(), true},
		{with(before(), put("stage/y/z", "")), before(), true},
		{machine(`file stage/x ""`), api.Machine{}, true},
		// This file lies not below the directory.
		{machine(`file stage "x"`), machine(`file stage "x"`), false},
	} {
		m, e := stage.Clean(c.m)
		isMachine(t, i, m, c.clean)
		if e != api.OK {
			t.Error(i, e)
		}
		if b, e := stage.Staged(c.m); b != c.staged || e != api.OK {
			t.Error(i, b, e)
		}
	}
}

func TestP120CheckChanges(t *testing.T) {
	l := func(l ...api.Change) []api.Change { return l }
	ofStage := func(kind int, path string) api.Change {
		return api.Change{Kind: kind, File: api.File{Path: path}}
	}
	blocked, staged := machine(`file stage ""`), with(before(), put("stage/x", ""))
	for i, c := range []struct {
		m    api.Machine
		l    []api.Change
		want api.Errno
	}{
		{before(), some(), api.OK},
		{staged, some(), api.OK},

		{blocked, some(), api.ErrConflict},
		{blocked, nil, api.ErrConflict},
		{blocked, l(put("stage/x", "")), api.ErrConflict},
		{blocked, l(remove("stage")), api.ErrConflict},

		{before(), l(put("stage", "")), api.ErrDenied},
		{before(), l(put("stage/x", "")), api.ErrDenied},
		{before(), l(put("stage/y/z", "")), api.ErrDenied},
		{before(), l(put("stage/journal", "")), api.ErrDenied},
		{before(), l(remove("stage")), api.ErrDenied},
		{staged, l(remove("stage/x")), api.ErrDenied},
		{before(), l(put("stage-", ""), put("stages/x", ""), put("a.stage", ""), put("b/stage", ""), put("Stage", "")), api.OK},
		{before(), changes(`set stage "1"`, `set stage/x "1"`, `service stage stage/x 0 0`), api.OK},
		// All are looked at for this ahead of all else.
		{before(), l(api.Change{}, remove("none"), put("a", ""), put("a", ""), put("stage/x", "")), api.ErrDenied},
		{before(), l(put("a/b", ""), put("stage", long(api.MaxData+1))), api.ErrDenied},
		// Other kinds of changes are not of a file.
		{before(), l(ofStage(0, "stage")), api.ErrKind},
		{before(), l(ofStage(7, "stage/x")), api.ErrKind},
		{before(), l(ofStage(api.ChangeSet, "stage/x")), api.ErrName},
		{before(), l(api.Change{Kind: api.ChangeSet, File: api.File{Path: "stage/x"}, Setting: api.Setting{Key: "k"}}), api.ErrForm},

		{before(), l(api.Change{}), api.ErrKind},
		{before(), l(put("/", "")), api.ErrName},
		{before(), l(put("x", long(api.MaxData+1))), api.ErrLarge},
		{before(), l(remove("none")), api.ErrNone},
		{before(), l(put("etc/conf", "")), api.ErrConflict},
		{before(), l(put("x", ""), put("x", ""), remove("none")), api.ErrNone},
		{before(), l(remove("a"), remove("a")), api.ErrNone},
		{before(), changes(`set none ""`, `unset none`, `drop none`), api.ErrNone},
		{full(api.MaxFiles), l(put("x", "")), api.ErrLarge},
		{full(api.MaxFiles), changes(`set x ""`), api.ErrLarge},
		{full(api.MaxFiles), changes(`service x x 0 0`), api.ErrLarge},
		{full(api.MaxFiles), l(put(numbered(0), "x")), api.OK},
		{full(api.MaxFiles), l(remove(numbered(0)), put("x", "")), api.OK},
		// Stage files take no room: they go first.
		{with(full(api.MaxFiles-1), put("stage/x", "")), l(put("x", "")), api.OK},
		{with(full(api.MaxFiles-1), put("stage/x", "")), l(put("x", ""), put("y", "")), api.ErrLarge},

		{before(), nil, api.ErrEmpty},
		{api.Machine{}, []api.Change{}, api.ErrEmpty},

		{before(), l(put("x", ""), put("x", "")), api.ErrTwice},
		{before(), l(put("x", ""), put("y", ""), put("x", "other")), api.ErrTwice},
		{before(), l(put("a", ""), remove("a")), api.ErrTwice},
		{before(), l(remove("a"), put("a", "")), api.ErrTwice},
		{before(), l(put("x", ""), remove("x"), put("x/y", "")), api.ErrTwice},
		{before(), changes(`set k "3"`, `put k ""`, `service k k 0 0`), api.OK},
		{before(), changes(`set k "3"`, `unset k`), api.ErrTwice},
		{before(), changes(`unset k`, `set k "3"`), api.ErrTwice},
		{before(), changes(`set new ""`, `set new ""`), api.ErrTwice},
		{before(), changes(`drop s`, `service s a 0 0`), api.ErrTwice},
		{before(), changes(`service s a 0 0`, `drop s`), api.ErrTwice},
		{before(), changes(`service w a 0 0`, `service w b 0 0`), api.ErrTwice},
		{before(), changes(`set a ""`, `service a a 0 0`, `remove a`, `set b ""`, `service b b 0 0`), api.OK},
	} {
		if e := stage.CheckChanges(c.m, c.l); e != c.want {
			t.Errorf("CheckChanges %d: %d, not %d", i, e, c.want)
		}
	}
}

// TestP120First sees that all functions with a machine look at it ahead of all else.
func TestP120First(t *testing.T) {
	cuts := make([]api.Cut, 51)
	for bad, want := range map[int]api.Errno{0: api.ErrForm, 1: api.ErrOrder} {
		m := []api.Machine{
			{Facts: []api.Setting{{Key: "a", Value: "\n"}}},
			{Files: []api.File{{Path: "stage/journal"}, {Path: "stage/done"}}},
		}[bad]
		for _, l := range [][]api.Change{nil, {put("stage", "")}, some()} {
			if e := stage.CheckChanges(m, l); e != want {
				t.Error(e)
			}
			if p, e := stage.Plan(m, "?", l); len(p) != 0 || e != want {
				t.Error(p, e)
			}
			if n, e := stage.Writes(m, "?", l); n != 0 || e != want {
				t.Error(n, e)
			}
			if n, r, e := stage.Try(m, "?", l, cuts); !isNone(n) || len(r) != 0 || e != want {
				t.Error(n, r, e)
			}
		}
		if n, e := stage.Clean(m); !isNone(n) || e != want {
			t.Error(n, e)
		}
		if b, e := stage.Staged(m); b || e != want {
			t.Error(b, e)
		}
		if j, n, e := stage.Look(m); !same(j, api.Journal{}) || n != 0 || e != want {
			t.Error(j, n, e)
		}
	}
}
