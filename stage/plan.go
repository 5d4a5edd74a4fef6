package stage

import (
	"outfitter/api"
	"outfitter/disk"
	"outfitter/ver"
)

// Plan returns the writes of a transaction.
func Plan(m api.Machine, id string, l []api.Change) ([]api.Change, api.Errno) {
	if e := CheckChanges(m, l); e != api.OK {
		return nil, e
	}
	if !ver.IsName(id) {
		return nil, api.ErrName
	}
	if _, state, _ := Look(m); state == journalRead || has(m, doneMark) || has(m, backMark) {
		return nil, api.ErrState
	}
	old, e := leadingBack(m, l)
	if e != api.OK {
		return nil, e
	}
	journal, e := PrintJournal(api.Journal{Id: id, Changes: l, Old: old})
	if e != api.OK {
		return nil, e
	}
	paths, _ := disk.Below(m, stageDir)
	plan := append(removals(paths, journalFile), put(journalFile, journal))
	plan = append(plan, l...)
	plan = append(plan, put(doneMark, id), remove(journalFile), remove(doneMark))
	// Whatever else could go wrong on the way has been looked at, but for the room that the stage files take.
	if _, e := disk.Apply(m, plan); e != api.OK {
		return nil, e
	}
	return plan, api.OK
}

// Writes returns how many writes a transaction has.
func Writes(m api.Machine, id string, l []api.Change) (int, api.Errno) {
	plan, e := Plan(m, id, l)
	return len(plan), e
}

// leadingBack returns the changes that undo those of a transaction, wherever it is cut.
func leadingBack(m api.Machine, l []api.Change) ([]api.Change, api.Errno) {
	clean, e := Clean(m)
	if e != api.OK {
		return nil, e
	}
	old, e := disk.Undo(clean, l)
	if e != api.OK {
		return nil, e
	}
	// A file that is put just as it is needs no undoing, but a cut can tear it.
	there := thingsOf(clean)
	for _, c := range l {
		if c.Kind == api.ChangePut && there.made(c) {
			old = append(old, c)
		}
	}
	return old, api.OK
}
