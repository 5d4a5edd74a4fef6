package disk

import (
	"outfitter/api"
)

// maxAfter is how far ahead a cut can be planned.
const maxAfter = 1_000_000

// Disk is a machine that can lose its power.
type Disk struct {
	has     *things
	off     bool
	planned bool
	cut     api.Cut // if it is planned
	writes  int
}

// NewDisk returns a disk, with power, that holds a machine.
func NewDisk(m api.Machine) (*Disk, api.Errno) {
	if e := Check(m); e != api.OK {
		return nil, e
	}
	return &Disk{has: thingsOf(m)}, api.OK
}

// Do makes a change, unless the power is cut.
func (d *Disk) Do(c api.Change) api.Errno {
	if d.off {
		return api.ErrState
	}
	if e := d.has.refuse(c); e != api.OK {
		return e
	}
	if d.planned && d.cut.After == 0 {
		d.lose(c)
		return api.ErrCut
	}
	if d.planned {
		d.cut.After--
	}
	d.write(c)
	return api.OK
}

// Cut plans to cut the power in the write behind some further ones.
func (d *Disk) Cut(after int, torn bool) api.Errno {
	switch {
	case after < 0 || after > maxAfter:
		return api.ErrRange
	case d.off:
		return api.ErrState
	}
	d.planned, d.cut = true, api.Cut{After: after, Torn: torn}
	return api.OK
}

// On gives a disk power again.
func (d *Disk) On() api.Errno {
	if !d.off {
		return api.ErrState
	}
	d.has = thingsOf(boot(d.has.machine()))
	d.off = false
	return api.OK
}

// Machine returns what a disk with power holds.
func (d *Disk) Machine() (api.Machine, api.Errno) {
	if d.off {
		return api.Machine{}, api.ErrState
	}
	return d.has.machine(), api.OK
}

// Peek returns what a disk holds, also without power.
func (d *Disk) Peek() api.Machine { return d.has.machine() }

// Writes returns how many writes there were.
func (d *Disk) Writes() int { return d.writes }

func (d *Disk) write(c api.Change) {
	d.has.do(c)
	d.writes++
}

// lose cuts the power in a change.
func (d *Disk) lose(c api.Change) {
	if d.cut.Torn && c.Kind == api.ChangePut {
		c.File.Data = c.File.Data[:len(c.File.Data)/2]
		d.write(c)
	}
	d.off, d.planned, d.cut = true, false, api.Cut{}
}
