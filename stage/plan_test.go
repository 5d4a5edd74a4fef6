package stage_test

import (
	"math/rand/v2"
	"slices"
	"testing"

	"outfitter/api"
	"outfitter/disk"
	"outfitter/stage"
)

// planOf is what stands in a plan around the changes, on a machine without stage files.
func planOf(id string, l, old []api.Change) []api.Change {
	return slices.Concat([]api.Change{put("stage/journal", journal(id, l, old))}, l, []api.Change{put("stage/done", id), remove("stage/journal"), remove("stage/done")})
}

// isPlan checks Plan and Writes.
func isPlan(t *testing.T, what any, m api.Machine, id string, l, want []api.Change, wantError api.Errno) {
	t.Helper()
	p, e := stage.Plan(m, id, l)
	isList(t, what, p, want)
	if e != wantError {
		t.Errorf("Plan %v: %d, not %d", what, e, wantError)
	}
	if n, e := stage.Writes(m, id, l); n != len(want) || e != wantError {
		t.Errorf("Writes %v: %d, %d, not %d, %d", what, n, e, len(want), wantError)
	}
}

func TestP122Plan(t *testing.T) {
	isPlan(t, "some", before(), "t1", some(), planOf("t1", some(), someOld()), api.OK)
	one := []api.Change{put("x/y", "1")}
	isPlan(t, "one", api.Machine{}, "job", one, planOf("job", one, []api.Change{remove("x/y")}), api.OK)
	isPlan(t, "long", api.Machine{}, long(40), one, planOf(long(40), one, []api.Change{remove("x/y")}), api.OK)

	// Files that are put as they are stand behind all else that leads back, in the order of the changes.
	m := machine(`file a "1"`, `file b "2"`, `file c ""`, `run d "4"`, `file e "5"`, `set a "1"`, `service a a 1 1`)
	l := []api.Change{put("e", "5"), put("d", "4"), put("c", ""), put("b", "x"), put("a", "1")}
	l = append(l, changes(`set a "1"`, `service a a 1 1`, `put f ""`)...)
	old := []api.Change{remove("f"), put("b", "2"), {Kind: api.ChangePut, File: m.Files[3]}, put("e", "5"), put("c", ""), put("a", "1")}
	isPlan(t, "as it is", m, "t", l, planOf("t", l, old), api.OK)
	// What is there already, but for files, needs nothing.
	isPlan(t, "no file", m, "t", changes(`set a "1"`, `service a a 1 1`), planOf("t", changes(`set a "1"`, `service a a 1 1`), nil), api.OK)
}

func TestP122Swept(t *testing.T) {
	for i, c := range []struct{ files, swept []string }{
		{[]string{"stage/x"}, []string{"stage/x"}},
		{[]string{"stage/z/y", "stage/b", "stage/z/a", "stage/a"}, []string{"stage/a", "stage/b", "stage/z/a", "stage/z/y"}},
		{[]string{"stage/journal"}, []string{"stage/journal"}},
		{[]string{"stage/journal", "stage/k", "stage/i", "stage/journal-"}, []string{"stage/i", "stage/journal-", "stage/k", "stage/journal"}},
		{[]string{"stage/journal/y", "stage/journal/x", "stage/z"}, []string{"stage/journal/x", "stage/journal/y", "stage/z"}},
		{[]string{"stage/back/x", "stage/done/x"}, []string{"stage/back/x", "stage/done/x"}},
		{[]string{"stage-/x", "stage.x"}, nil},
	} {
		m := before()
		for _, path := range c.files {
			m = with(m, put(path, "torn"))
		}
		var want []api.Change
		for _, path := range c.swept {
			want = append(want, remove(path))
		}
		isPlan(t, i, m, "t1", some(), append(want, planOf("t1", some(), someOld())...), api.OK)
	}
}

func TestP122Errors(t *testing.T) {
	l := some()
	torn := someJournal()[:len(someJournal())/2]
	fat := []api.Change{put("x", long(api.MaxData))}
	read := put("stage/journal", someJournal())
	for i, c := range []struct {
		m    api.Machine
		id   string
		l    []api.Change
		want api.Errno
	}{
		{with(before(), read), "?", append(l, l[0]), api.ErrTwice},
		{with(before(), read), "?", nil, api.ErrEmpty},
		{machine(`file stage ""`), "?", l, api.ErrConflict},
		{before(), "?", []api.Change{put("stage/x", "")}, api.ErrDenied},

		{before(), "", l, api.ErrName},
		{before(), "T", l, api.ErrName},
		{before(), "a/b", l, api.ErrName},
		{before(), "a\n", l, api.ErrName},
		{before(), long(41), l, api.ErrName},
		{with(before(), read), "", fat, api.ErrName},

		{with(before(), put("stage/done", "")), "t", l, api.ErrState},
		{with(before(), put("stage/back", "")), "t", l, api.ErrState},
		{with(before(), put("stage/done", "t"), put("stage/journal", torn)), "t", l, api.ErrState},
		{with(before(), put("stage/back", "t"), put("stage/journal", torn)), "t", l, api.ErrState},
		{with(before(), read), "t", l, api.ErrState},
		{with(before(), read), "t1", l, api.ErrState},
		{with(before(), read), "t", fat, api.ErrState},
		{with(full(api.MaxFiles-1), put("stage/done", "")), "t", []api.Change{put("x", "")}, api.ErrState},

		{before(), "t", fat, api.ErrLarge},
		{with(before(), fat[0]), "t", []api.Change{remove("x")}, api.ErrLarge},
		{with(before(), fat[0]), "t", []api.Change{put("x", "")}, api.ErrLarge},
	} {
		isPlan(t, i, c.m, c.id, c.l, nil, c.want)
	}
}

// TestP122Largest has journals that have just room, and not.
func TestP122Largest(t *testing.T) {
	rest := len(journal("t", []api.Change{put("x", "")}, []api.Change{remove("x")}))
	for more, want := range []api.Errno{api.OK, api.ErrLarge} {
		l := []api.Change{put("x", long(api.MaxData-rest+more))}
		plan := planOf("t", l, []api.Change{remove("x")})
		if want != api.OK {
			plan = nil
		}
		isPlan(t, more, api.Machine{}, "t", l, plan, want)
	}
}

// TestP122Room has machines in which there is just room for the stage files, and not.
func TestP122Room(t *testing.T) {
	for i, c := range []struct {
		files int
		l     []api.Change
		want  api.Errno
	}{
		// The journal stands beside all that is there.
		{api.MaxFiles, []api.Change{remove(numbered(0)), remove(numbered(1))}, api.ErrLarge},
		{api.MaxFiles - 1, []api.Change{remove(numbered(0)), remove(numbered(1))}, api.OK},
		{api.MaxFiles - 1, []api.Change{remove(numbered(0))}, api.OK},
		{api.MaxFiles - 1, []api.Change{put(numbered(0), "x")}, api.ErrLarge},
		{api.MaxFiles - 2, []api.Change{put(numbered(0), "x")}, api.OK},
		{api.MaxFiles - 2, []api.Change{put("x", "")}, api.ErrLarge},
		{api.MaxFiles - 3, []api.Change{put("x", "")}, api.OK},
		// What is put first takes room, too.
		{api.MaxFiles - 2, []api.Change{put("x", ""), remove(numbered(0))}, api.OK},
		{api.MaxFiles - 2, []api.Change{put("x", ""), put("y", ""), remove(numbered(0)), remove(numbered(1))}, api.ErrLarge},
		{api.MaxFiles - 2, []api.Change{put("x", ""), remove(numbered(0)), put("y", ""), remove(numbered(1))}, api.OK},
		{api.MaxFiles - 1, changes(`set ` + numbered(0) + ` "x"`), api.ErrLarge},
		{api.MaxFiles - 2, changes(`set `+numbered(0)+` "x"`, `service `+numbered(0)+` x 1 1`), api.OK},
	} {
		m := full(c.files)
		p, e := stage.Plan(m, "t", c.l)
		if e != c.want || (len(p) == len(c.l)+4) != (e == api.OK) {
			t.Error(i, len(p), e)
		}
		// Old stage files go first, so that they take no room.
		if c.files < api.MaxFiles {
			p, e := stage.Plan(with(m, put("stage/journal", "")), "t", c.l)
			if e != c.want || (len(p) == len(c.l)+5) != (e == api.OK) {
				t.Error(i, len(p), e)
			}
		}
	}
}

// TestP122Chance sees what all plans have in common.
func TestP122Chance(t *testing.T) {
	rnd := rand.New(rand.NewPCG(1, 2))
	again := 0
	for range 2000 {
		m := guess(rnd)
		l := guessChanges(rnd, m)
		staged := m
		for _, path := range []string{"stage/journal", "stage/a", "stage/z/a", "stage/z/b"} {
			if rnd.IntN(3) == 0 {
				staged = with(staged, put(path, "x"))
			}
		}
		after, e := disk.Apply(m, l)
		if e != api.OK {
			t.Fatal(e)
		}
		p, e := stage.Plan(staged, "t", l)
		if e != api.OK {
			t.Fatal(e)
		}
		isMachine(t, l, with(staged, p...), after)
		j, e := stage.ParseJournal(p[len(p)-len(l)-4].File.Data)
		if e != api.OK {
			t.Fatal(e)
		}
		isList(t, "Changes", j.Changes, l)
		// Undone at any point, and with any file torn, it is as it was.
		for i := range len(l) + 1 {
			at := with(m, l[:i]...)
			if i < len(l) && l[i].Kind == api.ChangePut {
				half := l[i]
				half.File.Data = half.File.Data[:len(half.File.Data)/2]
				at = with(at, half)
			}
			for _, c := range j.Old {
				if n, e := disk.Apply(at, []api.Change{c}); e == api.OK {
					at = n
				} else if e != api.ErrNone {
					t.Fatal(l, i, e)
				}
			}
			isMachine(t, l, at, m)
		}
		old, _ := disk.Undo(m, l)
		again += len(j.Old) - len(old)
	}
	if again < 100 {
		t.Error("too little is put as it is:", again)
	}
}
