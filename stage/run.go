package stage

import (
	"outfitter/api"
	"outfitter/disk"
)

const (
	maxCuts  = 50
	maxAfter = 1_000_000
)

// What Try says, besides what has become of a transaction.
const (
	wasRun = 0 // without a cut
	wasCut = -1
)

// Run makes the writes of a transaction.
func Run(d *disk.Disk, id string, l []api.Change) api.Errno {
	m, e := machineOf(d)
	if e != api.OK {
		return e
	}
	plan, e := Plan(m, id, l)
	if e != api.OK {
		return e
	}
	return doAll(d, plan)
}

// Try runs a transaction while the power is cut again and again, and returns the machine then, and what each run and
// recovery said.
func Try(m api.Machine, id string, l []api.Change, cuts []api.Cut) (api.Machine, []int, api.Errno) {
	if _, e := Plan(m, id, l); e != api.OK {
		return api.Machine{}, nil, e
	}
	if e := checkCuts(cuts); e != api.OK {
		return api.Machine{}, nil, e
	}
	d, e := disk.NewDisk(m)
	if e != api.OK {
		return api.Machine{}, nil, e
	}
	var said []int
	work := func() (int, api.Errno) { return wasRun, Run(d, id, l) }
	for {
		if len(cuts) > 0 {
			d.Cut(cuts[0].After, cuts[0].Torn)
			cuts = cuts[1:]
		}
		was, e := work()
		if e == api.OK {
			n, e := d.Machine()
			return n, append(said, was), e
		}
		if e != api.ErrCut {
			return api.Machine{}, nil, e
		}
		said = append(said, wasCut)
		d.On()
		work = func() (int, api.Errno) {
			_, was, e := Recover(d)
			return was, e
		}
	}
}

func checkCuts(cuts []api.Cut) api.Errno {
	if len(cuts) > maxCuts {
		return api.ErrLarge
	}
	for _, c := range cuts {
		if c.After < 0 || c.After > maxAfter {
			return api.ErrRange
		}
	}
	return api.OK
}

// machineOf returns what a disk holds, if there is one.
func machineOf(d *disk.Disk) (api.Machine, api.Errno) {
	if d == nil {
		return api.Machine{}, api.ErrForm
	}
	return d.Machine()
}

func doAll(d *disk.Disk, l []api.Change) api.Errno {
	for _, c := range l {
		if e := d.Do(c); e != api.OK {
			return e
		}
	}
	return api.OK
}
