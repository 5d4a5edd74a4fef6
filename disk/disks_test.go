package disk_test

import (
	"math/rand/v2"
	"testing"

	"outfitter/api"
	"outfitter/disk"
)

// hold sees what a disk with power holds, and how many writes there were.
func hold(t *testing.T, d *disk.Disk, m api.Machine, writes int) {
	t.Helper()
	if n, e := d.Machine(); !disk.Same(n, m) || e != api.OK {
		t.Errorf("Machine: %v, %d, not %v", n, e, m)
	}
	if n := d.Peek(); !disk.Same(n, m) {
		t.Errorf("Peek: %v, not %v", n, m)
	}
	if n := d.Writes(); n != writes {
		t.Errorf("Writes: %d, not %d", n, writes)
	}
}

// rest sees what a disk without power holds, and that nothing can be done with it.
func rest(t *testing.T, d *disk.Disk, m api.Machine, writes int) {
	t.Helper()
	for _, c := range []api.Change{put("x", ""), {}, remove("none")} {
		if e := d.Do(c); e != api.ErrState {
			t.Errorf("Do: %d", e)
		}
	}
	if e := d.Cut(0, false); e != api.ErrState {
		t.Errorf("Cut: %d", e)
	}
	if n, e := d.Machine(); !isNone(n) || e != api.ErrState {
		t.Errorf("Machine: %v, %d", n, e)
	}
	if n := d.Peek(); !disk.Same(n, m) {
		t.Errorf("Peek: %v, not %v", n, m)
	}
	if n := d.Writes(); n != writes {
		t.Errorf("Writes: %d, not %d", n, writes)
	}
}

func do(t *testing.T, d *disk.Disk, c api.Change, want api.Errno) {
	t.Helper()
	if e := d.Do(c); e != want {
		t.Errorf("Do(%v): %d, not %d", c, e, want)
	}
}

func cut(t *testing.T, d *disk.Disk, after int, torn bool) {
	t.Helper()
	if e := d.Cut(after, torn); e != api.OK {
		t.Errorf("Cut: %d", e)
	}
}

func on(t *testing.T, d *disk.Disk) {
	t.Helper()
	if e := d.On(); e != api.OK {
		t.Errorf("On: %d", e)
	}
}

func boot(t *testing.T, m api.Machine) api.Machine {
	t.Helper()
	n, e := disk.Boot(m)
	if e != api.OK {
		t.Fatal(e)
	}
	return n
}

func TestP26Do(t *testing.T) {
	d := newDisk(t, some())
	// What is on stays so: the machine is not started.
	hold(t, d, some(), 0)
	m := some()
	writes := 0
	for _, c := range []api.Change{put("bin", "x"), put("bin", "x"), remove("A"), set("a", "b"), unset("z"), begin(service("a", "a")), drop("b"), put("A/b", "")} {
		do(t, d, c, api.OK)
		writes++
		m = apply(t, m, c)
		hold(t, d, m, writes)
	}
	for c, want := range map[api.Change]api.Errno{
		{}: api.ErrKind, remove("none"): api.ErrNone, unset("none"): api.ErrNone, drop("none"): api.ErrNone, put("A", ""): api.ErrConflict, put("bin/x", ""): api.ErrConflict,
		put("/", ""): api.ErrName, put("x", long(api.MaxData+1)): api.ErrLarge, set("a", "\n"): api.ErrForm,
	} {
		do(t, d, c, want)
		hold(t, d, m, writes)
	}
	if e := d.On(); e != api.ErrState {
		t.Error(e)
	}
	hold(t, d, m, writes)
}

func TestP26Full(t *testing.T) {
	d := newDisk(t, full(0, 0, 0, 0))
	for _, c := range []api.Change{put("x", ""), set("x", ""), begin(service("x", "x"))} {
		do(t, d, c, api.ErrLarge)
	}
	hold(t, d, full(0, 0, 0, 0), 0)
	do(t, d, put(numbered(0), "x"), api.OK)
	do(t, d, remove(numbered(0)), api.OK)
	do(t, d, put("x", ""), api.OK)
	do(t, d, put("y", ""), api.ErrLarge)
}

func TestP26Cut(t *testing.T) {
	for _, torn := range []bool{false, true} {
		for after := range 4 {
			for i, c := range []api.Change{put("A", "12345"), put("new/a", "1234"), put("x", "1"), put("x", ""), remove("A"), set("z", "1234"), unset("z"), begin(service("b", "1234")), drop("b")} {
				d := newDisk(t, some())
				m := some()
				cut(t, d, after, torn)
				for range after {
					do(t, d, set("a", "b"), api.OK)
					m = apply(t, m, set("a", "b"))
				}
				do(t, d, c, api.ErrCut)
				writes := after
				if torn && c.Kind == api.ChangePut {
					m = apply(t, m, put(c.File.Path, c.File.Data[:len(c.File.Data)/2]))
					writes++
				}
				rest(t, d, m, writes)
				on(t, d)
				m = boot(t, m)
				hold(t, d, m, writes)
				if e := d.On(); e != api.ErrState {
					t.Error(i, e)
				}
				// There is no cut any more.
				for range 5 {
					do(t, d, c, slowError(m, c))
					if n, e := slowly(m, c); e == api.OK {
						m = n
						writes++
					}
					hold(t, d, m, writes)
				}
			}
		}
	}
}

func slowError(m api.Machine, c api.Change) api.Errno {
	_, e := slowly(m, c)
	return e
}

// TestP26Torn looks at what is torn besides its Data.
func TestP26Torn(t *testing.T) {
	d := newDisk(t, some())
	cut(t, d, 0, true)
	c := put("bin", "12345")
	do(t, d, c, api.ErrCut)
	if n := d.Peek(); n.Files[1] != (api.File{Path: "bin", Data: "12"}) {
		t.Error(n.Files[1])
	}
	on(t, d)
	cut(t, d, 0, true)
	c.File.Runs = true
	do(t, d, c, api.ErrCut)
	if n := d.Peek(); n.Files[1] != (api.File{Path: "bin", Data: "12", Runs: true}) {
		t.Error(n.Files[1])
	}
	on(t, d)
	// A file that is torn is one like others.
	do(t, d, put("bin/x", ""), api.ErrConflict)
	do(t, d, remove("bin"), api.OK)
	do(t, d, put("bin/x", ""), api.OK)
	if d.Writes() != 4 {
		t.Error(d.Writes())
	}
}

// TestP26Refused sees that a cut that is due still stands behind a change that is refused, and is no nearer behind one.
func TestP26Refused(t *testing.T) {
	for _, torn := range []bool{false, true} {
		d := newDisk(t, some())
		cut(t, d, 1, torn)
		do(t, d, remove("none"), api.ErrNone)
		do(t, d, api.Change{}, api.ErrKind)
		do(t, d, remove("A"), api.OK)
		m := apply(t, some(), remove("A"))
		do(t, d, put("bin/x", "1234"), api.ErrConflict)
		do(t, d, remove("A"), api.ErrNone)
		do(t, d, put("x", long(api.MaxData+1)), api.ErrLarge)
		hold(t, d, m, 1)
		do(t, d, drop("a"), api.ErrCut)
		rest(t, d, m, 1)
	}
}

// TestP26Again plans a cut in the place of another one.
func TestP26Again(t *testing.T) {
	d := newDisk(t, some())
	cut(t, d, 0, true)
	cut(t, d, 2, false)
	do(t, d, put("x", "1234"), api.OK)
	cut(t, d, 1, true)
	do(t, d, put("x", "1234"), api.OK)
	if e := d.Cut(-1, false); e != api.ErrRange {
		t.Error(e)
	}
	do(t, d, put("x", "12345678"), api.ErrCut)
	rest(t, d, apply(t, some(), put("x", "1234")), 3)
	on(t, d)
	cut(t, d, 0, true)
	cut(t, d, 0, false)
	do(t, d, put("x", ""), api.ErrCut)
	rest(t, d, boot(t, apply(t, some(), put("x", "1234"))), 3)
}

func TestP26Range(t *testing.T) {
	d := newDisk(t, some())
	check := func(other api.Errno) {
		for after, want := range map[int]api.Errno{-1: api.ErrRange, 1_000_001: api.ErrRange, 1 << 62: api.ErrRange, -1 << 63: api.ErrRange, 1_000_000: other, 0: other} {
			if e := d.Cut(after, true); e != want {
				t.Error(after, e)
			}
		}
	}
	check(api.OK)
	cut(t, d, 0, false)
	do(t, d, remove("A"), api.ErrCut)
	check(api.ErrState)
	rest(t, d, some(), 0)
	on(t, d)
	// What was not planned is not cut.
	do(t, d, remove("A"), api.OK)
	cut(t, d, 1_000_000, false)
	for range 1_000_000 {
		if e := d.Do(set("a", "")); e != api.OK {
			t.Fatal(e)
		}
	}
	do(t, d, set("a", ""), api.ErrCut)
}

// TestP26Chance holds a disk against one change after the other, made slowly.
func TestP26Chance(t *testing.T) {
	rnd := rand.New(rand.NewPCG(5, 6))
	for range 1000 {
		m := guess(rnd)
		d := newDisk(t, m)
		writes, after, torn := 0, -1, false
		for range 40 {
			if rnd.IntN(5) == 0 {
				after, torn = rnd.IntN(4), rnd.IntN(2) == 0
				cut(t, d, after, torn)
			}
			c := guessChange(rnd)
			want := slowError(m, c)
			lost := want == api.OK && after == 0
			switch {
			case lost && torn && c.Kind == api.ChangePut:
				half := c
				half.File.Data = half.File.Data[:len(half.File.Data)/2]
				m = apply(t, m, half)
				writes++
			case want == api.OK && !lost:
				m = apply(t, m, c)
				writes++
				after--
			}
			if !lost {
				do(t, d, c, want)
			} else {
				do(t, d, c, api.ErrCut)
				rest(t, d, m, writes)
				on(t, d)
				m, after = boot(t, m), -1
			}
			hold(t, d, m, writes)
		}
	}
}
