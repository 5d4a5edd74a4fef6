// Package migrate has steps, which change machines, and rules, which bring settings from version to version
// (doc/07-migrate.md).
package migrate

import (
	"outfitter/api"
	"outfitter/disk"
	"outfitter/pack"
)

// CheckStep validates a step.
func CheckStep(s api.Step) api.Errno {
	// Package pack looks at steps in packages alone; nothing else can be wrong with this one.
	part := api.Component{Name: "a", When: api.Cond{Kind: api.CondTrue}, Steps: []api.Step{s}}
	return pack.Check(api.Package{Name: "a", Components: []api.Component{part}})
}

// Do returns what a step changes on a machine: at most one change.
func Do(m api.Machine, s api.Step) ([]api.Change, api.Errno) {
	l, _, e := DoAll(m, []api.Step{s})
	return l, e
}

// DoAll returns what steps change on a machine, one after the other, and how many there are, or which one is wrong.
func DoAll(m api.Machine, l []api.Step) ([]api.Change, int, api.Errno) {
	d, e := disk.NewDisk(m) // which refuses what disk.Apply does, however many changes there were before
	if e != api.OK {
		return nil, 0, e
	}
	there := thingsOf(m)
	var changes []api.Change
	for i, s := range l {
		if e := CheckStep(s); e != api.OK {
			return nil, i, e
		}
		c, e := there.change(s)
		if e != api.OK {
			return nil, i, e
		}
		if there.made(c) {
			continue
		}
		if e := d.Do(c); e != api.OK {
			return nil, i, e
		}
		there.do(c)
		changes = append(changes, c)
	}
	return changes, len(l), api.OK
}
