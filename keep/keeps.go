package keep

import (
	"cmp"
	"strings"

	"outfitter/api"
	"outfitter/disk"
	"outfitter/ver"
)

// Check validates a keep.
func Check(k api.Keep) api.Errno {
	if len(k.Held) > api.MaxHeld {
		return api.ErrLarge
	}
	for i, h := range k.Held {
		if e := checkHeld(h); e != api.OK {
			return e
		}
		if i > 0 && compare(k.Held[i-1], h) >= 0 {
			return api.ErrOrder
		}
	}
	first := map[place]api.Held{}
	for _, h := range k.Held {
		other, isHeld := first[heldAt(h)]
		if isHeld && !areShared(other, h) {
			return api.ErrConflict
		}
		first[heldAt(h)] = h
	}
	return api.OK
}

// Owners returns who holds a place.
func Owners(k api.Keep, kind int, path string) ([]string, api.Errno) {
	at := place{thingKind(kind), path}
	if e := cmp.Or(Check(k), when(at.kind == 0, api.ErrKind), when(!isPlace(at), api.ErrName)); e != api.OK {
		return nil, e
	}
	var owners []string
	for _, h := range k.Held {
		if heldAt(h) == at {
			owners = append(owners, h.Owner)
		}
	}
	return owners, api.OK
}

// Things returns what an owner holds.
func Things(k api.Keep, owner string) ([]api.Held, api.Errno) {
	if e := cmp.Or(Check(k), checkOwner(owner)); e != api.OK {
		return nil, e
	}
	return heldSo(k, func(h api.Held) bool { return h.Owner == owner }), api.OK
}

// heldSo returns what is held so, in order.
func heldSo(k api.Keep, so func(api.Held) bool) []api.Held {
	var l []api.Held
	for _, h := range k.Held {
		if so(h) {
			l = append(l, h)
		}
	}
	return l
}

func heldAt(h api.Held) place { return place{thingKind(h.Kind), h.Path} }

// heldBy returns an item as an owner holds it.
func heldBy(owner string, x api.Item) api.Held {
	c := bringing(x)
	h := api.Held{Owner: owner, Kind: x.Kind, Path: placeOf(c).name, Sum: sumOf(c)}
	if x.Kind == api.ItemText {
		h.Base = x.File.Data
	}
	return h
}

// areShared reports whether two owners can hold the same place so.
func areShared(a, b api.Held) bool {
	return a.Kind == api.ItemShared && b.Kind == api.ItemShared && a.Sum == b.Sum
}

// compare tells which of two held things stands first in a keep.
func compare(a, b api.Held) int {
	p, q := heldAt(a), heldAt(b)
	return cmp.Or(strings.Compare(a.Owner, b.Owner), cmp.Compare(p.kind, q.kind), strings.Compare(p.name, q.name))
}

func checkOwner(owner string) api.Errno { return when(!ver.IsName(owner), api.ErrName) }

func checkHeld(h api.Held) api.Errno {
	return cmp.Or(
		checkOwner(h.Owner),
		when(thingKind(h.Kind) == 0, api.ErrKind),
		when(!isPlace(heldAt(h)), api.ErrName),
		when(!isSummed(h), api.ErrForm),
	)
}

// isPlace reports whether there can be such a place.
func isPlace(at place) bool {
	if at.kind == api.ChangeService {
		return ver.IsName(at.name)
	}
	return ver.IsPath(at.name)
}

// isSummed reports whether Sum and Base of a held thing go with its kind, and with each other.
func isSummed(h api.Held) bool {
	if h.Kind == api.ItemText {
		return h.Sum == markedSum("-", h.Base) || h.Sum == markedSum("r", h.Base)
	}
	return h.Base == "" && len(h.Sum) == len(disk.SumOf("")) && strings.Trim(h.Sum, "0123456789abcdef") == ""
}
