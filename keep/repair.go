package keep

import (
	"cmp"

	"outfitter/api"
	"outfitter/disk"
)

// Repair tells what has to be done so that what an owner holds is whole.
func Repair(m api.Machine, k api.Keep, owner string, l []api.Item) (api.Result, api.Errno) {
	if e := cmp.Or(disk.Check(m), Check(k), checkOwner(owner)); e != api.OK {
		return api.Result{}, e
	}
	w := newWork(m, k, owner)
	if len(w.own) == 0 {
		return api.Result{}, api.ErrNone
	}
	for _, x := range l {
		if e := w.checkRepair(x); e != api.OK {
			return api.Result{}, e
		}
	}
	for _, x := range l {
		w.repair(x)
	}
	return w.result(m, w.keep(k, func(api.Held) bool { return true }, nil))
}

// checkRepair sees that an item is what the owner holds.
func (w *work) checkRepair(x api.Item) api.Errno {
	if e := CheckItem(x); e != api.OK {
		return e
	}
	s := w.spotOf(x)
	return cmp.Or(when(!s.isHeld(), api.ErrNone), when(sumOf(s.coming) != s.held.Sum, api.ErrSum))
}

// repair brings an item, if it is gone, or has been changed by a user who may not.
func (w *work) repair(x api.Item) {
	s := w.spotOf(x)
	if !s.isThere || !s.isOld() && !isUsers(x.Kind) {
		w.bring(s.coming)
	}
}

// Adopt makes an owner hold items that are there already.
func Adopt(m api.Machine, k api.Keep, owner string, l []api.Item) (api.Keep, api.Errno) {
	if e := cmp.Or(disk.Check(m), Check(k), checkOwner(owner)); e != api.OK {
		return api.Keep{}, e
	}
	w := newWork(m, k, owner)
	for _, x := range l {
		if e := cmp.Or(w.accept(x), w.checkThere(x)); e != api.OK {
			return api.Keep{}, e
		}
	}
	adopted := w.keep(k, func(h api.Held) bool {
		_, isReplaced := w.items[heldAt(h)]
		return w.isOthers(h) || !isReplaced
	}, l)
	if e := Check(adopted); e != api.OK {
		return api.Keep{}, e
	}
	return adopted, api.OK
}

// checkThere sees that an item is there, and just so, if the user may not change it.
func (w *work) checkThere(x api.Item) api.Errno {
	s := w.spotOf(x)
	return cmp.Or(when(!s.isThere, api.ErrNone), when(!s.isNew() && !isUsers(x.Kind), api.ErrSum))
}
