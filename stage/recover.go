package stage

import (
	"outfitter/api"
	"outfitter/disk"
)

// Recover puts a disk in order behind a cut, and returns which transaction was cut, and what has become of it.
func Recover(d *disk.Disk) (string, int, api.Errno) {
	m, e := machineOf(d)
	if e != api.OK {
		return "", 0, e
	}
	j, state, e := Look(m)
	if e != api.OK {
		return "", 0, e
	}
	was, e := settle(d, m, j, state == journalRead)
	if e != api.OK {
		return "", 0, e
	}
	return j.Id, was, api.OK
}

// Back takes back a transaction that was cut, and returns which one it was.
func Back(d *disk.Disk) (string, api.Errno) {
	m, e := machineOf(d)
	if e != api.OK {
		return "", e
	}
	j, state, e := Look(m)
	if e != api.OK {
		return "", e
	}
	if state != journalRead || has(m, doneMark) {
		return "", api.ErrState
	}
	if !has(m, backMark) {
		if e := d.Do(put(backMark, j.Id)); e != api.OK {
			return "", e
		}
	}
	id, _, e := Recover(d)
	return id, e
}

// settle brings a transaction to its end, forward or back, and tells which one.
func settle(d *disk.Disk, m api.Machine, j api.Journal, readable bool) (int, api.Errno) {
	isBack := has(m, backMark)
	staged, e := Staged(m)
	switch {
	case e != api.OK:
		return 0, e
	case !staged:
		return api.WasNone, api.OK
	case has(m, doneMark):
		return api.WasAfter, sweep(d, doneMark)
	case readable && !isBack:
		return api.WasAfter, forward(d, j)
	case readable:
		return api.WasBack, backward(d, j)
	case isBack:
		return api.WasBack, sweep(d, backMark)
	}
	return api.WasBefore, sweep(d, journalFile)
}

func forward(d *disk.Disk, j api.Journal) api.Errno {
	if e := makeMissing(d, j.Changes); e != api.OK {
		return e
	}
	if e := d.Do(put(doneMark, j.Id)); e != api.OK {
		return e
	}
	return sweep(d, doneMark)
}

func backward(d *disk.Disk, j api.Journal) api.Errno {
	if e := makeMissing(d, j.Old); e != api.OK {
		return e
	}
	return sweep(d, backMark)
}

// makeMissing makes those changes that are not made yet.
func makeMissing(d *disk.Disk, l []api.Change) api.Errno {
	m, e := d.Machine()
	if e != api.OK {
		return e
	}
	there := thingsOf(m)
	for _, c := range l {
		if there.made(c) {
			continue
		}
		if e := d.Do(c); e != api.OK {
			return e
		}
		there.do(c)
	}
	return api.OK
}

// sweep removes all stage files, one of them last.
func sweep(d *disk.Disk, last string) api.Errno {
	m, e := d.Machine()
	if e != api.OK {
		return e
	}
	paths, e := disk.Below(m, stageDir)
	if e != api.OK {
		return e
	}
	return doAll(d, removals(paths, last))
}
