package keep

import (
	"cmp"
	"slices"

	"outfitter/api"
	"outfitter/delta"
	"outfitter/disk"
	"outfitter/ver"
)

// Bring tells what has to be done so that an owner has just these items.
func Bring(m api.Machine, k api.Keep, owner string, l []api.Item, how api.Manner) (api.Result, api.Errno) {
	if e := cmp.Or(disk.Check(m), Check(k), checkOwner(owner), when(len(l) > api.MaxHeld, api.ErrLarge)); e != api.OK {
		return api.Result{}, e
	}
	w := newWork(m, k, owner)
	for _, x := range l {
		if e := cmp.Or(w.accept(x), when(isDenied(x), api.ErrDenied)); e != api.OK {
			return api.Result{}, e
		}
	}
	if !how.Force && slices.ContainsFunc(l, w.isInTheWay) {
		return api.Result{}, api.ErrConflict
	}
	for _, h := range k.Held {
		// There is no kind 0, which is that of a place to which nothing comes.
		if h.Owner == owner && w.items[heldAt(h)].Kind != h.Kind {
			w.drop(h, how)
		}
	}
	for _, x := range l {
		w.bringItem(x)
	}
	return w.result(m, w.keep(k, w.isOthers, l))
}

// isDenied reports whether an item is a file that belongs to package stage.
func isDenied(x api.Item) bool { return x.File.Path == stageDir || isStaged(x.File.Path) }

// isInTheWay reports whether a file that nobody holds is where an item is to come that may not replace it.
func (w *work) isInTheWay(x api.Item) bool {
	s := w.spotOf(x)
	_, isOwn := w.own[s.at]
	_, isOthers := w.others[s.at]
	mayNot := x.Kind == api.ItemProgram || x.Kind == api.ItemShared
	return mayNot && s.isThere && !isOwn && !isOthers && !s.isNew()
}

// spot is where an item comes to.
type spot struct {
	at      place
	coming  api.Change // brings the item
	there   api.Change
	isThere bool
	held    api.Held // as an item of the same kind, or zero
}

func (w *work) spotOf(x api.Item) spot {
	s := spot{coming: w.bringing(x)}
	s.at = placeOf(s.coming)
	s.there, s.isThere = w.there[s.at]
	if held := w.own[s.at]; held.Kind == x.Kind {
		s.held = held
	}
	return s
}

// isHeld reports whether the owner holds such an item there.
func (s spot) isHeld() bool { return s.held != api.Held{} }

// isNew reports whether what is there is the same as the item.
func (s spot) isNew() bool { return s.isThere && sumOf(s.there) == sumOf(s.coming) }

// isOld reports whether what is there is as the owner brought it.
func (s spot) isOld() bool { return s.isThere && sumOf(s.there) == s.held.Sum }

// bringItem brings an item as its kind asks for.
func (w *work) bringItem(x api.Item) {
	s := w.spotOf(x)
	switch x.Kind {
	case api.ItemText:
		w.bringText(s)
	case api.ItemData:
		if !s.isThere {
			w.bring(s.coming)
		}
	case api.ItemSetting:
		w.bringSetting(s)
	default:
		w.bringOwn(s)
	}
}

// bringOwn brings what the user may not change.
func (w *work) bringOwn(s spot) {
	if s.isNew() {
		return
	}
	if s.isHeld() && s.isThere && !s.isOld() {
		w.note(api.NoteReplaced, s.at.name)
	}
	w.bring(s.coming)
}

func (w *work) bringSetting(s spot) {
	switch {
	case s.isNew():
		return
	case !s.isThere || s.isOld():
		w.bring(s.coming)
	default:
		w.note(api.NoteKept, s.at.name)
	}
}

func (w *work) bringText(s spot) {
	switch {
	case !s.isThere:
		if s.isHeld() {
			w.note(api.NoteAgain, s.at.name)
		}
		w.bring(s.coming)
	case s.isNew():
		return
	case s.isOld():
		w.bring(s.coming)
	case !s.isHeld():
		w.clash(s)
	case s.coming.File.Data != s.held.Base:
		w.merge(s)
	}
}

// merge puts together what the user and the owner have made of a text.
func (w *work) merge(s spot) {
	text, clashes, e := delta.Merge(s.held.Base, s.there.File.Data, s.coming.File.Data)
	if e != api.OK || clashes > 0 {
		w.clash(s)
		return
	}
	merged := s.coming
	merged.File.Data = text
	w.note(api.NoteMerged, s.at.name)
	w.bring(merged)
}

// clash leaves the user's text as it is, and puts the new one beside it, if there is room.
func (w *work) clash(s spot) {
	w.note(api.NoteClash, s.at.name)
	beside := s.coming
	beside.File.Path += ".new"
	at := placeOf(beside)
	_, isThere := w.there[at]
	_, isBrought := w.items[at]
	if ver.IsPath(at.name) && !isThere && !isBrought && !w.there.hasBelow(at.name) {
		w.bring(beside)
	}
}
