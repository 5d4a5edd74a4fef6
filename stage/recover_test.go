package stage_test

import (
	"math/rand/v2"
	"slices"
	"testing"

	"outfitter/api"
	"outfitter/disk"
	"outfitter/stage"
)

// cutMachine is the machine of a transaction that was cut behind so many of its changes, with its journal, and more.
func cutMachine(made int, more ...api.Change) api.Machine {
	m := with(before(), put("stage/journal", someJournal()))
	return with(with(m, some()[:made]...), more...)
}

func TestP124None(t *testing.T) {
	for _, m := range []api.Machine{{}, before(), machine(`file stage "x"`), machine(`file stage-/done ""`, `file stage.x ""`)} {
		writes(t, "none", m, nil, recovery(t, "", api.WasNone))
	}
}

func TestP124Done(t *testing.T) {
	swept := func(paths ...string) []api.Change {
		var l []api.Change
		for _, path := range append(paths, "stage/done") {
			l = append(l, remove(path))
		}
		return l
	}
	done := put("stage/done", "")
	// Nothing else is looked at.
	writes(t, "alone", with(before(), done), swept(), recovery(t, "", api.WasAfter))
	writes(t, "some made", cutMachine(3, done), swept("stage/journal"), recovery(t, "t1", api.WasAfter))
	writes(t, "none made", cutMachine(0, put("stage/done", "t")), swept("stage/journal"), recovery(t, "t1", api.WasAfter))
	writes(t, "back", cutMachine(2, done, put("stage/back", "t1")), swept("stage/back", "stage/journal"), recovery(t, "t1", api.WasAfter))
	writes(t, "back alone", with(before(), done, put("stage/back", "")), swept("stage/back"), recovery(t, "", api.WasAfter))
	torn := with(before(), done, put("stage/journal", "torn"), put("stage/x", ""), put("stage/a", ""), put("stage/x.y/z", ""), put("stage/e", ""))
	writes(t, "torn", torn, swept("stage/a", "stage/e", "stage/journal", "stage/x", "stage/x.y/z"), recovery(t, "", api.WasAfter))
}

func TestP124Forward(t *testing.T) {
	end := []api.Change{put("stage/done", "t1"), remove("stage/journal"), remove("stage/done")}
	asItIs := slices.IndexFunc(some(), func(c api.Change) bool { return c.File.Path == "same" })
	for made := range len(some()) + 1 {
		left := slices.Clone(some()[made:])
		// A file that is there just so needs no write.
		if made <= asItIs {
			left = slices.Delete(left, asItIs-made, asItIs-made+1)
		}
		writes(t, made, cutMachine(made), slices.Concat(left, end), recovery(t, "t1", api.WasAfter))
	}
	// All that is staged goes, in order, the mark last.
	m := cutMachine(len(some()), put("stage/x", ""), put("stage/a", ""), put("stage/k/l", ""))
	writes(t, "more", m, []api.Change{put("stage/done", "t1"), remove("stage/a"), remove("stage/journal"), remove("stage/k/l"), remove("stage/x"), remove("stage/done")}, recovery(t, "t1", api.WasAfter))
	// What was torn, or is otherwise in any way, is made.
	all := with(before(), some()...)
	for _, c := range some() {
		for _, other := range otherwise(c, all) {
			m := with(all, other)
			needed := []api.Change{c}
			if slices.Equal(m.Files, all.Files) && slices.Equal(m.Settings, all.Settings) && slices.Equal(m.Services, all.Services) {
				needed = nil
			}
			writes(t, []any{c, other}, with(m, put("stage/journal", someJournal())), slices.Concat(needed, end), recovery(t, "t1", api.WasAfter))
		}
	}
}

// otherwise are changes that make what a change is of unlike.
func otherwise(c api.Change, m api.Machine) []api.Change {
	var l []api.Change
	switch c.Kind {
	case api.ChangePut:
		l = append(l, put(c.File.Path, c.File.Data[:len(c.File.Data)/2]), put(c.File.Path, c.File.Data+"."), remove(c.File.Path), c)
		l[0].File.Runs = c.File.Runs
		runs := c
		runs.File.Runs = !c.File.Runs
		l = append(l, runs)
	case api.ChangeSet:
		l = append(l, changes("set "+c.Setting.Key+` ""`, "unset "+c.Setting.Key)...)
	case api.ChangeUnset:
		l = append(l, changes("set "+c.Setting.Key+` ""`)...)
	case api.ChangeService:
		for i := range 3 {
			other := c
			other.Service.Auto = c.Service.Auto != (i == 0)
			other.Service.On = c.Service.On != (i == 1)
			if i == 2 {
				other.Service.Path = "other"
			}
			l = append(l, other)
		}
		l = append(l, changes("drop "+c.Service.Name)...)
	case api.ChangeDrop:
		l = append(l, changes("service "+c.Service.Name+" x 0 0")...)
	}
	return l
}

func TestP124Backward(t *testing.T) {
	end := []api.Change{remove("stage/journal"), remove("stage/back")}
	for _, data := range []string{"", "t", "t1", "other"} {
		back := put("stage/back", data)
		for made := range len(some()) + 1 {
			m := cutMachine(made, back)
			writes(t, made, m, slices.Concat(needed(m, someOld()), end), recovery(t, "t1", api.WasBack))
		}
	}
	// A file that was put as it is has been torn.
	m := cutMachine(0, put("stage/back", ""), put("same", "as "))
	writes(t, "torn", m, append([]api.Change{put("same", "as it is")}, end...), recovery(t, "t1", api.WasBack))
	m = cutMachine(0, put("stage/back", ""), put("stage/a", ""), put("stage/c", ""), put("stage/x/y", ""))
	writes(t, "more", m, []api.Change{remove("stage/a"), remove("stage/c"), remove("stage/journal"), remove("stage/x/y"), remove("stage/back")}, recovery(t, "t1", api.WasBack))
}

func TestP124Swept(t *testing.T) {
	back := []api.Change{remove("stage/journal"), remove("stage/back")}
	writes(t, "back alone", with(before(), put("stage/back", "t1")), back[1:], recovery(t, "", api.WasBack))
	writes(t, "back, torn", with(before(), put("stage/back", "t1"), put("stage/journal", someJournal()[1:])), back, recovery(t, "", api.WasBack))
	more := with(before(), put("stage/back", ""), put("stage/a", ""), put("stage/x", ""))
	writes(t, "back and more", more, []api.Change{remove("stage/a"), remove("stage/x"), remove("stage/back")}, recovery(t, "", api.WasBack))

	half := someJournal()[:len(someJournal())/2]
	writes(t, "torn", with(before(), put("stage/journal", half)), []api.Change{remove("stage/journal")}, recovery(t, "", api.WasBefore))
	writes(t, "other files", with(before(), put("stage/x", ""), put("stage/a/b", "")), []api.Change{remove("stage/a/b"), remove("stage/x")}, recovery(t, "", api.WasBefore))
	more = with(before(), put("stage/journal", ""), put("stage/x", ""), put("stage/a", ""), put("stage/journal-", ""))
	writes(t, "torn and more", more, []api.Change{remove("stage/a"), remove("stage/journal-"), remove("stage/x"), remove("stage/journal")}, recovery(t, "", api.WasBefore))
	// What lies below is neither mark nor journal.
	more = with(before(), put("stage/done/x", ""), put("stage/back/x", ""), put("stage/journal/x", ""))
	writes(t, "below", more, []api.Change{remove("stage/back/x"), remove("stage/done/x"), remove("stage/journal/x")}, recovery(t, "", api.WasBefore))
}

// TestP124Turn has journals with a place that stands there more than once, and with stage files.
func TestP124Turn(t *testing.T) {
	l := []api.Change{put("x", "1"), put("x", "2"), remove("x"), put("x", "1"), put("x", "1"), put("y", "1"), remove("y"), put("stage/x", "")}
	l = append(l, changes(`set x "1"`, `unset x`, `unset x`, `set x "1"`, `service x x 0 0`, `service x x 0 0`, `drop x`, `drop x`)...)
	made := append(slices.Delete(slices.Clone(l), 4, 5), l[0])[:len(l)-1]
	made = slices.DeleteFunc(made, func(c api.Change) bool { return c.Kind > api.ChangeRemove })
	made = append(made, changes(`set x "1"`, `unset x`, `set x "1"`, `service x x 0 0`, `drop x`)...)
	m := with(before(), put("stage/journal", journal("t", l, l)))
	end := []api.Change{put("stage/done", "t"), remove("stage/journal"), remove("stage/x"), remove("stage/done")}
	writes(t, "forward", m, slices.Concat(made, end), recovery(t, "t", api.WasAfter))
	end = []api.Change{remove("stage/journal"), remove("stage/x"), remove("stage/back")}
	writes(t, "backward", with(m, put("stage/back", "")), slices.Concat(made, end), recovery(t, "t", api.WasBack))
	// `stage/done` is put, also if it is there by then.
	l = []api.Change{put("stage/done", "x")}
	end = []api.Change{put("stage/done", "x"), put("stage/done", "t"), remove("stage/journal"), remove("stage/done")}
	writes(t, "done", with(before(), put("stage/journal", journal("t", l, nil))), end, recovery(t, "t", api.WasAfter))
}

func TestP124Errors(t *testing.T) {
	if id, was, e := stage.Recover(nil); id != "" || was != 0 || e != api.ErrForm {
		t.Error(id, was, e)
	}
	off := cutAt(t, cutMachine(3), 0, false)
	off.Do(put("x", ""))
	if id, was, e := stage.Recover(off); id != "" || was != 0 || e != api.ErrState {
		t.Error(id, was, e)
	}
}

// needed are those changes of a list that are not made when their turn comes.
func needed(m api.Machine, l []api.Change) []api.Change {
	var left []api.Change
	for _, c := range l {
		n, e := disk.Apply(m, []api.Change{c})
		if e == api.OK && !disk.Same(n, m) {
			left, m = append(left, c), n
		}
	}
	return left
}

// TestP124Others has machines that somebody else has changed so that a change cannot be made: what was made before stays.
func TestP124Others(t *testing.T) {
	back := put("stage/back", "")
	for i, c := range []struct {
		m    api.Machine
		made []api.Change
	}{
		{cutMachine(2, put("etc/conf/x", "")), nil},
		{cutMachine(1, remove("etc"), put("etc/conf/x", "")), nil},
		{cutMachine(0, put("x/y", "")), slices.Concat(some()[:3], some()[4:9])},
		{cutMachine(1, remove("bin/app"), put("bin", "")), nil},
		{cutMachine(4, back, remove("bin/app"), put("bin", "")), someOld()[:1]},
		{cutMachine(2, back, put("x/y", ""), put("etc/conf/x", "")), someOld()[3:4]},
	} {
		d := newDisk(t, c.m)
		if id, was, e := stage.Recover(d); id != "" || was != 0 || e != api.ErrConflict {
			t.Error(i, id, was, e)
		}
		isMachine(t, i, d.Peek(), with(c.m, c.made...))
	}
	// What others have changed does not matter as long as all can be made.
	m := cutMachine(3, remove("etc/conf"), put("etc", "other"), put("new", ""))
	end := []api.Change{put("stage/done", "t1"), remove("stage/journal"), remove("stage/done")}
	writes(t, "others", m, slices.Concat(needed(m, some()), end), recovery(t, "t1", api.WasAfter))
}

// TestP124Full has machines with no room for a file, a mark, a setting or a service.
func TestP124Full(t *testing.T) {
	one := []api.Change{put("x", "1")}
	written := put("stage/journal", journal("t", one, []api.Change{remove("x")}))
	for files, want := range map[int]api.Errno{api.MaxFiles - 1: api.ErrLarge, api.MaxFiles - 2: api.ErrLarge, api.MaxFiles - 3: api.OK} {
		m := with(full(files), written)
		d := newDisk(t, m)
		if _, _, e := stage.Recover(d); e != want {
			t.Error(files, e)
		}
		if files == api.MaxFiles-2 {
			isMachine(t, files, d.Peek(), with(m, one...))
		}
	}
	for _, line := range []string{`set x ""`, `service x x 0 0`} {
		m := with(full(1), put("stage/journal", journal("t", changes(line), nil)))
		if _, _, e := stage.Recover(newDisk(t, m)); e != api.ErrLarge {
			t.Error(line, e)
		}
	}
}

func TestP125Back(t *testing.T) {
	put1 := put("stage/back", "t1")
	end := []api.Change{remove("stage/journal"), remove("stage/back")}
	for made := range len(some()) + 1 {
		m := cutMachine(made)
		l := needed(m, someOld())
		writes(t, made, m, slices.Concat([]api.Change{put1}, l, end), takingBack(t, "t1"))
		// It is not put again, whatever is in it.
		writes(t, made, with(m, put("stage/back", "t")), slices.Concat(l, end), takingBack(t, "t1"))
	}
	m := cutMachine(0, put("stage/x", ""), put("stage/a", ""))
	writes(t, "more", m, []api.Change{put1, remove("stage/a"), remove("stage/journal"), remove("stage/x"), remove("stage/back")}, takingBack(t, "t1"))
}

func TestP125Errors(t *testing.T) {
	if id, e := stage.Back(nil); id != "" || e != api.ErrForm {
		t.Error(id, e)
	}
	off := cutAt(t, cutMachine(3), 0, false)
	off.Do(put("x", ""))
	if id, e := stage.Back(off); id != "" || e != api.ErrState {
		t.Error(id, e)
	}
	l := []api.Change{remove(numbered(0)), remove(numbered(1)), remove(numbered(2))}
	old := []api.Change{put(numbered(0), ""), put(numbered(1), ""), put(numbered(2), "")}
	written := put("stage/journal", journal("t", l, old))
	for i, c := range []struct {
		m    api.Machine
		want api.Errno
	}{
		{before(), api.ErrState},
		{machine(`file stage ""`), api.ErrState},
		{with(before(), put("stage/journal", "")), api.ErrState},
		{with(before(), put("stage/journal", someJournal()[1:])), api.ErrState},
		{with(before(), put("stage/back", "t1")), api.ErrState},
		{with(before(), put("stage/back", "t1"), put("stage/journal", "")), api.ErrState},
		{cutMachine(3, put("stage/done", "")), api.ErrState},
		{cutMachine(3, put("stage/done", "t1"), put("stage/back", "t1")), api.ErrState},
		{with(before(), put("stage/done", "t1")), api.ErrState},
		{with(full(api.MaxFiles-1), written), api.ErrLarge},
	} {
		d := cutAt(t, c.m, 0, true)
		if id, e := stage.Back(d); id != "" || e != c.want || d.Writes() != 0 {
			t.Error(i, id, e, d.Writes())
		}
		isMachine(t, i, d.Peek(), c.m)
	}
	// There is room for the mark, but not for what has to be put back.
	m := with(full(api.MaxFiles), l...)
	m = with(m, put("x", ""), written)
	d := newDisk(t, m)
	if id, e := stage.Back(d); id != "" || e != api.ErrLarge {
		t.Error(id, e)
	}
	isMachine(t, "no room", d.Peek(), with(m, put("stage/back", "t")))
	// Room that somebody makes is enough.
	for _, path := range []string{numbered(5), numbered(6), numbered(7)} {
		d.Do(remove(path))
	}
	if id, e := stage.Back(d); id != "t" || e != api.OK {
		t.Error(id, e)
	}
	isMachine(t, "room", d.Peek(), with(full(api.MaxFiles), put(numbered(0), ""), remove(numbered(5)), remove(numbered(6)), remove(numbered(7)), put("x", "")))
	// Nor can a file be put below another one.
	d = newDisk(t, cutMachine(2, put("etc/conf/x", "")))
	if id, e := stage.Back(d); id != "" || e != api.ErrConflict {
		t.Error(id, e)
	}
}

// slowRecover does what P124 says, word by word.
func slowRecover(d *disk.Disk) (string, int, api.Errno) {
	m, e := d.Machine()
	if e != api.OK {
		return "", 0, e
	}
	j, state, _ := stage.Look(m)
	is := func(path string) bool {
		_, e := disk.File(m, path)
		return e == api.OK
	}
	was := api.WasBefore
	last := "stage/journal"
	staged, _ := stage.Staged(m)
	switch {
	case !staged:
		return "", api.WasNone, api.OK
	case is("stage/done"):
		was, last = api.WasAfter, "stage/done"
	case state == 2 && !is("stage/back"):
		was, last = api.WasAfter, "stage/done"
		e = slowMake(d, append(j.Changes, api.Change{}, put("stage/done", j.Id)))
	case state == 2:
		was, last = api.WasBack, "stage/back"
		e = slowMake(d, j.Old)
	case is("stage/back"):
		was, last = api.WasBack, "stage/back"
	}
	paths, _ := disk.Below(d.Peek(), "stage")
	at := slices.Index(paths, last)
	if at >= 0 {
		paths = append(slices.Delete(paths, at, at+1), last)
	}
	for _, path := range paths {
		if e == api.OK {
			e = d.Do(remove(path))
		}
	}
	if e != api.OK {
		return "", 0, e
	}
	return j.Id, was, api.OK
}

// slowMake makes changes that are not made, and behind a zero one all.
func slowMake(d *disk.Disk, l []api.Change) api.Errno {
	all := false
	for _, c := range l {
		if c == (api.Change{}) {
			all = true
			continue
		}
		m, _ := d.Machine()
		n, e := disk.Apply(m, []api.Change{c})
		if !all && (e == api.ErrNone || e == api.OK && disk.Same(m, n)) {
			continue
		}
		if e := d.Do(c); e != api.OK {
			return e
		}
	}
	return api.OK
}

// slowBack does what P125 says, word by word.
func slowBack(d *disk.Disk) (string, api.Errno) {
	m, e := d.Machine()
	if e != api.OK {
		return "", e
	}
	j, state, _ := stage.Look(m)
	if _, e := disk.File(m, "stage/done"); e == api.OK || state != 2 {
		return "", api.ErrState
	}
	if _, e := disk.File(m, "stage/back"); e != api.OK {
		if e := d.Do(put("stage/back", j.Id)); e != api.OK {
			return "", e
		}
	}
	id, _, e := slowRecover(d)
	return id, e
}

// guessStaged is a machine by chance, on which there are stage files.
func guessStaged(rnd *rand.Rand) api.Machine {
	m := guess(rnd)
	var lists [2][]api.Change
	for i := range lists {
		for range rnd.IntN(8) {
			lists[i] = append(lists[i], guessChange(rnd))
		}
	}
	text := journal("t"+numbered(rnd.IntN(10)), lists[0], lists[1])
	switch rnd.IntN(4) {
	case 0:
		text = text[:len(text)/2]
	case 1:
		text = ""
	}
	if text != "" {
		m = with(m, put("stage/journal", text))
	}
	for _, path := range []string{"stage/done", "stage/back", "stage/x/y", "stage/e"} {
		if rnd.IntN(4) == 0 {
			m = with(m, put(path, ""))
		}
	}
	return m
}

// TestP124Slowly holds Recover and Back against slow ways on machines by chance, with cuts.
func TestP124Slowly(t *testing.T) {
	rnd := rand.New(rand.NewPCG(7, 8))
	seen := map[[2]int]int{}
	for range 20000 {
		m := guessStaged(rnd)
		after, torn, back := rnd.IntN(30), rnd.IntN(2) == 0, rnd.IntN(3) == 0
		d, slow := cutAt(t, m, after, torn), cutAt(t, m, after, torn)
		var id, slowId string
		var was, slowWas int
		var e, slowE api.Errno
		if back {
			id, e = stage.Back(d)
			slowId, slowE = slowBack(slow)
		} else {
			id, was, e = stage.Recover(d)
			slowId, slowWas, slowE = slowRecover(slow)
		}
		if id != slowId || was != slowWas || e != slowE || d.Writes() != slow.Writes() {
			t.Fatal(m, after, torn, back, id, was, e, d.Writes(), "not", slowId, slowWas, slowE, slow.Writes())
		}
		isMachine(t, m, d.Peek(), slow.Peek())
		seen[[2]int{was, int(e)}]++
	}
	for _, what := range [][2]int{{api.WasNone}, {api.WasBefore}, {api.WasAfter}, {api.WasBack}, {0}, {0, int(api.ErrCut)}, {0, int(api.ErrConflict)}, {0, int(api.ErrState)}} {
		if seen[what] < 100 {
			t.Error("too few are so:", what, seen)
		}
	}
}

// TestP125Chance cuts transactions, takes them back, and cuts that, too: behind it all the machine is as it was.
func TestP125Chance(t *testing.T) {
	rnd := rand.New(rand.NewPCG(5, 6))
	for range 3000 {
		m := guess(rnd)
		l := guessChanges(rnd, m)
		// It is cut behind the journal, and ahead of the mark that it is done.
		after := 1 + rnd.IntN(len(l)+1)
		d := cutAt(t, m, after, after <= len(l) && rnd.IntN(2) == 0)
		if e := stage.Run(d, "t", l); e != api.ErrCut {
			t.Fatal(e)
		}
		d.On()
		if id := takeBack(t, rnd, d, len(l)); id != "t" && id != "" {
			t.Fatal(id)
		}
		isMachine(t, l, stopped(d.Peek()), stopped(m))
	}
}

// takeBack takes a transaction back in spite of cuts behind the first write.
func takeBack(t *testing.T, rnd *rand.Rand, d *disk.Disk, many int) string {
	t.Helper()
	d.Cut(1+rnd.IntN(2*many+2), rnd.IntN(2) == 0)
	id, e := stage.Back(d)
	for e == api.ErrCut {
		d.On()
		d.Cut(rnd.IntN(many+3), rnd.IntN(2) == 0)
		was := 0
		id, was, e = stage.Recover(d)
		if e == api.OK && was != api.WasBack {
			t.Fatal("Recover", was)
		}
	}
	if e != api.OK {
		t.Fatal("Back", e)
	}
	return id
}
