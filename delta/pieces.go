// Package delta says how texts are made of older ones: deltas and their bytes, the best way from version to version, and
// lines that two sides have changed (doc/05-delta.md).
package delta

import (
	"strings"

	"outfitter/api"
	"outfitter/disk"
)

// CheckSteps validates pieces for an old text of so many bytes, and returns how long the new text is.
func CheckSteps(l []api.Piece, old int) (int, api.Errno) {
	if !isSize(old) {
		return 0, api.ErrRange
	}
	if len(l) > api.MaxPieces {
		return 0, api.ErrLarge
	}
	long := 0
	for _, p := range l {
		if e := checkPiece(p, old); e != api.OK {
			return 0, e
		}
		long += size(p)
	}
	if long > api.MaxData {
		return 0, api.ErrLarge
	}
	return long, api.OK
}

func isSize(n int) bool { return 0 <= n && n <= api.MaxData }

func checkPiece(p api.Piece, old int) api.Errno {
	if p.Data != "" {
		if p.At != 0 || p.Long != 0 {
			return api.ErrForm
		}
		return api.OK
	}
	// The sum of At and Long may be no int any more.
	if p.At < 0 || p.Long < 1 || p.Long > old-p.At {
		return api.ErrRange
	}
	return api.OK
}

// size returns how many bytes a piece makes.
func size(p api.Piece) int {
	if p.Data != "" {
		return len(p.Data)
	}
	return p.Long
}

// Check validates a delta.
func Check(d api.Delta) api.Errno {
	if !isSize(d.Old) || !isSize(d.New) {
		return api.ErrRange
	}
	if !isSum(d.OldSum) || !isSum(d.NewSum) {
		return api.ErrForm
	}
	long, e := CheckSteps(d.Pieces, d.Old)
	if e != api.OK {
		return e
	}
	if long != d.New {
		return api.ErrConflict
	}
	return api.OK
}

const digits = "0123456789abcdef"

// isSum reports whether a text has the form of what disk.SumOf returns.
func isSum(s string) bool {
	return len(s) == 2*sumBytes && strings.Trim(s, digits) == ""
}

// Apply returns the new text that a delta makes of the old one.
func Apply(a string, d api.Delta) (string, api.Errno) {
	if e := Check(d); e != api.OK {
		return "", e
	}
	if len(a) != d.Old || disk.SumOf(a) != d.OldSum {
		return "", api.ErrSum
	}
	var b strings.Builder
	for _, p := range d.Pieces {
		b.WriteString(p.Data)
		b.WriteString(a[p.At : p.At+p.Long])
	}
	if disk.SumOf(b.String()) != d.NewSum {
		return "", api.ErrSum
	}
	return b.String(), api.OK
}

// Fresh returns how many bytes of Data a delta has.
func Fresh(d api.Delta) (int, api.Errno) {
	if e := Check(d); e != api.OK {
		return 0, e
	}
	many := 0
	for _, p := range d.Pieces {
		many += len(p.Data)
	}
	return many, api.OK
}
