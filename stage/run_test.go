package stage_test

import (
	"math/rand/v2"
	"slices"
	"testing"

	"outfitter/api"
	"outfitter/disk"
	"outfitter/stage"
)

// running is Run as a work for writes.
func running(id string, l []api.Change) func(d *disk.Disk) api.Errno {
	return func(d *disk.Disk) api.Errno { return stage.Run(d, id, l) }
}

func TestP123Run(t *testing.T) {
	writes(t, "some", before(), planOf("t1", some(), someOld()), running("t1", some()))
	one := []api.Change{put("x", "1")}
	writes(t, "one", api.Machine{}, planOf("job", one, []api.Change{remove("x")}), running("job", one))
	staged := with(before(), put("stage/journal", "torn"), put("stage/a", ""), put("stage/z", ""))
	swept := []api.Change{remove("stage/a"), remove("stage/z"), remove("stage/journal")}
	writes(t, "staged", staged, append(swept, planOf("t1", some(), someOld())...), running("t1", some()))
	// One transaction after the other.
	d := newDisk(t, before())
	if e := stage.Run(d, "t1", some()); e != api.OK {
		t.Error(e)
	}
	if e := stage.Run(d, "t2", someOld()); e != api.OK {
		t.Error(e)
	}
	isMachine(t, "there and back", d.Peek(), before())
	if n := len(some()) + len(someOld()) + 8; d.Writes() != n {
		t.Error(d.Writes(), n)
	}
}

func TestP123Errors(t *testing.T) {
	if e := stage.Run(nil, "?", nil); e != api.ErrForm {
		t.Error(e)
	}
	off := cutAt(t, before(), 0, false)
	off.Do(put("x", ""))
	for _, l := range [][]api.Change{nil, some(), {put("stage", "")}} {
		if e := stage.Run(off, "?", l); e != api.ErrState {
			t.Error(e)
		}
	}
	for i, c := range []struct {
		m    api.Machine
		id   string
		l    []api.Change
		want api.Errno
	}{
		{before(), "t", nil, api.ErrEmpty},
		{before(), "?", some(), api.ErrName},
		{before(), "t", []api.Change{put("x", ""), put("stage/x", "")}, api.ErrDenied},
		{before(), "t", []api.Change{put("x", ""), remove("none")}, api.ErrNone},
		{before(), "t", []api.Change{put("x", ""), put("x", "")}, api.ErrTwice},
		{before(), "t", []api.Change{put("x", long(api.MaxData))}, api.ErrLarge},
		{with(before(), put("stage/back", "")), "t", some(), api.ErrState},
		{with(before(), put("stage/journal", someJournal())), "t", some(), api.ErrState},
		{full(api.MaxFiles - 2), "t", []api.Change{put("x", "")}, api.ErrLarge},
	} {
		d := cutAt(t, c.m, 0, true)
		if e := stage.Run(d, c.id, c.l); e != c.want || d.Writes() != 0 {
			t.Errorf("Run %d: %d, %d writes, not %d", i, e, d.Writes(), c.want)
		}
		isMachine(t, i, d.Peek(), c.m)
		// The cut still stands.
		if e := d.Do(put("y", "")); e != api.ErrCut && c.want != api.ErrLarge {
			t.Error(i, e)
		}
	}
}

// isTried checks Try against a machine, but for services that are on or not, and what was said.
func isTried(t *testing.T, m api.Machine, l []api.Change, cuts []api.Cut, want api.Machine, said ...int) {
	t.Helper()
	n, r, e := stage.Try(m, "t1", l, cuts)
	if e != api.OK || !slices.Equal(r, said) {
		t.Errorf("Try %v: %v, %d, not %v", cuts, r, e, said)
	}
	isMachine(t, cuts, stopped(n), stopped(want))
}

func TestP126Try(t *testing.T) {
	m, l := before(), some()
	after := with(m, l...)
	total := len(l) + 4
	isTried(t, m, l, nil, after, 0)
	isTried(t, m, l, []api.Cut{{After: total}}, after, 0)
	isTried(t, m, l, []api.Cut{{After: 1_000_000, Torn: true}, {After: 0}}, after, 0)
	isTried(t, m, l, []api.Cut{{After: 0}}, m, -1, api.WasNone)
	isTried(t, m, l, []api.Cut{{After: 0, Torn: true}}, m, -1, api.WasBefore)
	isTried(t, m, l, []api.Cut{{After: 1}}, after, -1, api.WasAfter)
	isTried(t, m, l, []api.Cut{{After: total - 1}}, after, -1, api.WasAfter)
	// What is left of the cuts does not count.
	isTried(t, m, l, []api.Cut{{After: 0}, {After: 0}, {After: 0}}, m, -1, api.WasNone)
	isTried(t, m, l, []api.Cut{{After: 0, Torn: true}, {After: 0}, {After: 1}, {After: 0}}, m, -1, -1, api.WasBefore)
	isTried(t, m, l, []api.Cut{{After: 5}, {After: 0}, {After: 2}, {After: 100}, {After: 0}}, after, -1, -1, -1, api.WasAfter)
	isTried(t, m, l, []api.Cut{{After: 5}, {After: 0}, {After: 2}}, after, -1, -1, -1, api.WasAfter)
	// As many cuts as there may be, each one in the next recovery.
	cuts := slices.Repeat([]api.Cut{{After: 0}}, 50)
	cuts[0].After = 1
	isTried(t, m, l, cuts, after, append(slices.Repeat([]int{-1}, 50), api.WasAfter)...)
	// Stage files that were there are gone, too.
	staged := with(m, put("stage/x", ""), put("stage/y", ""))
	isTried(t, staged, l, nil, after, 0)
	isTried(t, staged, l, []api.Cut{{After: 0}}, m, -1, api.WasBefore)
	isTried(t, staged, l, []api.Cut{{After: 1}, {After: 0}}, m, -1, -1, api.WasBefore)
	isTried(t, staged, l, []api.Cut{{After: 2}}, m, -1, api.WasNone)
	isTried(t, staged, l, []api.Cut{{After: 3}}, after, -1, api.WasAfter)
}

// TestP126Boot sees that the power is switched on behind each cut, and not without one.
func TestP126Boot(t *testing.T) {
	m := machine(`service a x 1 0`, `service b x 0 1`, `service c x 1 1`, `service d x 0 0`)
	l := changes(`service e x 1 0`, `service f x 0 1`, `put x ""`)
	n, _, e := stage.Try(m, "t", l, nil)
	if e != api.OK {
		t.Error(e)
	}
	isMachine(t, "no cut", n, with(m, l...))
	started, _ := disk.Boot(m)
	n, _, _ = stage.Try(m, "t", l, []api.Cut{{After: 0}})
	isMachine(t, "cut at first", n, started)
	// What was made is made again, if a start has changed it.
	n, _, _ = stage.Try(m, "t", l, []api.Cut{{After: 3}})
	isMachine(t, "cut behind some", n, with(started, l...))
	n, _, _ = stage.Try(m, "t", l, []api.Cut{{After: 6}})
	booted, _ := disk.Boot(with(m, l...))
	isMachine(t, "cut at the end", n, booted)
}

func TestP126Errors(t *testing.T) {
	many := make([]api.Cut, 51)
	for i, c := range []struct {
		id   string
		l    []api.Change
		cuts []api.Cut
		want api.Errno
	}{
		{"t", nil, many, api.ErrEmpty},
		{"?", some(), many, api.ErrName},
		{"t", []api.Change{put("x", long(api.MaxData))}, []api.Cut{{After: -1}}, api.ErrLarge},
		{"t", some(), many, api.ErrLarge},
		{"t", some(), append(many, api.Cut{After: -1}), api.ErrLarge},
		{"t", some(), []api.Cut{{After: -1}}, api.ErrRange},
		{"t", some(), []api.Cut{{After: 1_000_001}}, api.ErrRange},
		// Also what would not count is looked at.
		{"t", some(), []api.Cut{{After: 1_000_000}, {After: 0}, {After: -1, Torn: true}}, api.ErrRange},
		{"t", some(), append(many[:49:49], api.Cut{After: 1_000_001}), api.ErrRange},
		{"t", some(), many[:50], api.OK},
	} {
		m, r, e := stage.Try(before(), c.id, c.l, c.cuts)
		if e != c.want || e != api.OK && (!isNone(m) || len(r) != 0) {
			t.Errorf("Try %d: %v, %d, not %d", i, r, e, c.want)
		}
	}
	// A transaction that has not been put in order stays.
	m := with(before(), put("stage/done", ""))
	if n, r, e := stage.Try(m, "t", some(), nil); !isNone(n) || len(r) != 0 || e != api.ErrState {
		t.Error(n, r, e)
	}
}

// TestP126Cuts cuts the power at each write, torn or not, and at each one of the recovery.
func TestP126Cuts(t *testing.T) {
	for _, m := range []api.Machine{before(), with(before(), put("stage/journal", "torn"), put("stage/x", ""))} {
		clean, _ := stage.Clean(m)
		total, _ := stage.Writes(m, "t1", some())
		for first := range total + 1 {
			for second := range total + 1 {
				for kind := range 4 {
					cuts := []api.Cut{{After: first, Torn: kind&1 > 0}, {After: second, Torn: kind&2 > 0}}
					staysRight(t, clean, m, some(), cuts)
				}
			}
		}
	}
}

// staysRight sees that what Try leaves is what it says.
func staysRight(t *testing.T, clean, m api.Machine, l []api.Change, cuts []api.Cut) int {
	t.Helper()
	n, r, e := stage.Try(m, "t1", l, cuts)
	if e != api.OK || len(r) == 0 || len(r) > len(cuts)+1 {
		t.Fatal("Try", cuts, r, e)
	}
	for _, was := range r[:len(r)-1] {
		if was != -1 {
			t.Fatal("Try", cuts, r)
		}
	}
	last := r[len(r)-1]
	switch last {
	case 0, api.WasAfter:
		isMachine(t, cuts, stopped(n), stopped(with(clean, l...)))
	case api.WasNone, api.WasBefore:
		isMachine(t, cuts, stopped(n), stopped(clean))
	default:
		t.Fatal("Try", cuts, r)
	}
	if (last == 0) != (len(r) == 1) {
		t.Fatal("Try", cuts, r)
	}
	return last
}

// TestP280Chance cuts the power by chance in transactions by chance: what is brought is there whole or not at all.
func TestP280Chance(t *testing.T) {
	rnd := rand.New(rand.NewPCG(3, 4))
	ends := map[int]int{}
	for range 4000 {
		clean := guess(rnd)
		l := guessChanges(rnd, clean)
		m := clean
		for _, path := range []string{"stage/journal", "stage/a", "stage/k"} {
			if rnd.IntN(4) == 0 {
				m = with(m, put(path, "x"))
			}
		}
		var cuts []api.Cut
		for range rnd.IntN(8) {
			cuts = append(cuts, api.Cut{After: rnd.IntN(len(l) + 6), Torn: rnd.IntN(2) == 0})
		}
		ends[staysRight(t, clean, m, l, cuts)]++
	}
	for _, was := range []int{0, api.WasNone, api.WasBefore, api.WasAfter} {
		if ends[was] < 30 {
			t.Error("too few end so:", was, ends)
		}
	}
}
