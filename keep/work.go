package keep

import (
	"slices"

	"outfitter/api"
	"outfitter/disk"
)

// work is what has to be done for an owner.
type work struct {
	owner   string
	there   things // as they are behind the changes
	own     map[place]api.Held
	others  map[place]api.Held // of several that hold a place, the last one: they hold the same
	items   map[place]api.Item // those that come
	changes []api.Change
	notes   []api.Note
}

// newWork is for a machine and a keep that have been checked.
func newWork(m api.Machine, k api.Keep, owner string) *work {
	w := &work{
		owner:  owner,
		there:  thingsOf(m),
		own:    map[place]api.Held{},
		others: map[place]api.Held{},
		items:  map[place]api.Item{},
	}
	for _, h := range k.Held {
		if h.Owner == owner {
			w.own[heldAt(h)] = h
		} else {
			w.others[heldAt(h)] = h
		}
	}
	return w
}

// accept looks at an item that is to come, beside those that were accepted before.
func (w *work) accept(x api.Item) api.Errno {
	if e := CheckItem(x); e != api.OK {
		return e
	}
	at := placeOf(bringing(x))
	if _, isBrought := w.items[at]; isBrought {
		return api.ErrTwice
	}
	w.items[at] = x
	other, isHeld := w.others[at]
	return when(isHeld && !areShared(other, heldBy(w.owner, x)), api.ErrConflict)
}

// bringing returns the change that brings an item; a service that is there is on as it is.
func (w *work) bringing(x api.Item) api.Change {
	c := bringing(x)
	c.Service.On = w.there[placeOf(c)].Service.On
	return c
}

func (w *work) bring(c api.Change) {
	w.there.bring(c)
	w.changes = append(w.changes, c)
}

func (w *work) take(at place) {
	delete(w.there, at)
	w.changes = append(w.changes, taking(at))
}

// taking returns the change that takes away what is at a place.
func taking(at place) api.Change {
	switch at.kind {
	case api.ChangePut:
		return api.Change{Kind: api.ChangeRemove, File: api.File{Path: at.name}}
	case api.ChangeSet:
		return api.Change{Kind: api.ChangeUnset, Setting: api.Setting{Key: at.name}}
	}
	return api.Change{Kind: api.ChangeDrop, Service: api.Service{Name: at.name}}
}

func (w *work) note(kind int, path string) {
	w.notes = append(w.notes, api.Note{Kind: kind, Path: path})
}

// keep returns a keep of what stays of one, and of items that the owner holds then.
func (w *work) keep(k api.Keep, stays func(api.Held) bool, l []api.Item) api.Keep {
	held := heldSo(k, stays)
	for _, x := range l {
		held = append(held, heldBy(w.owner, x))
	}
	slices.SortFunc(held, compare)
	return api.Keep{Held: held}
}

// isOthers reports whether another owner holds a thing.
func (w *work) isOthers(h api.Held) bool { return h.Owner != w.owner }

// result returns what is to be done on a machine, if this can be done, and the keep behind it is right.
func (w *work) result(m api.Machine, k api.Keep) (api.Result, api.Errno) {
	if _, e := disk.Apply(m, w.changes); e != api.OK {
		return api.Result{}, e
	}
	if e := Check(k); e != api.OK {
		return api.Result{}, e
	}
	return api.Result{Changes: w.changes, Keep: k, Notes: w.notes}, api.OK
}
