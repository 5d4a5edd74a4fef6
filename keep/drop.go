package keep

import (
	"cmp"

	"outfitter/api"
	"outfitter/disk"
)

// Drop tells what has to be done so that an owner holds nothing any more.
func Drop(m api.Machine, k api.Keep, owner string, how api.Manner) (api.Result, api.Errno) {
	if e := cmp.Or(disk.Check(m), Check(k), checkOwner(owner)); e != api.OK {
		return api.Result{}, e
	}
	w := newWork(m, k, owner)
	if len(w.own) == 0 {
		return api.Result{}, api.ErrNone
	}
	for _, h := range k.Held {
		if h.Owner == owner {
			w.drop(h, how)
		}
	}
	return w.result(m, w.keep(k, w.isOthers, nil))
}

// drop lets go of a thing that the owner holds.
func (w *work) drop(h api.Held, how api.Manner) {
	at := heldAt(h)
	// What several hold is shared by all of them.
	_, isShared := w.others[at]
	state := w.there.state(h)
	switch {
	case isShared || state == api.HeldGone:
		return
	case state == api.HeldSame || goesChanged(h.Kind, how):
		w.take(at)
	default:
		w.note(api.NoteLeft, h.Path)
	}
}

// goesChanged reports whether a thing of a kind goes also where it has been changed.
func goesChanged(kind int, how api.Manner) bool {
	switch {
	case isUsers(kind):
		return how.All
	case kind == api.ItemShared:
		return how.Force
	}
	return true
}
