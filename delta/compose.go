package delta

import (
	"sort"
	"strings"

	"outfitter/api"
)

// Compose returns the delta from the old text of d to the new text of e.
func Compose(d, e api.Delta) (api.Delta, api.Errno) {
	for _, x := range []api.Delta{d, e} {
		if n := Check(x); n != api.OK {
			return api.Delta{}, n
		}
	}
	if d.New != e.Old || d.NewSum != e.OldSum {
		return api.Delta{}, api.ErrConflict
	}
	l := join(replace(d.Pieces, e.Pieces))
	if len(l) > api.MaxPieces {
		return api.Delta{}, api.ErrLarge
	}
	return api.Delta{Old: d.Old, New: e.New, OldSum: d.OldSum, NewSum: e.NewSum, Pieces: l}, api.OK
}

// Tidy joins the pieces of a delta that can be one.
func Tidy(d api.Delta) (api.Delta, api.Errno) {
	if e := Check(d); e != api.OK {
		return api.Delta{}, e
	}
	d.Pieces = join(d.Pieces)
	return d, api.OK
}

// replace puts what makes the bytes of the text between in the place of each copy out of it.
func replace(first, second []api.Piece) []api.Piece {
	ends := make([]int, len(first)) // where each of first ends in the text between
	end := 0
	for i, p := range first {
		end += size(p)
		ends[i] = end
	}
	var l []api.Piece
	for _, p := range second {
		if p.Data != "" {
			l = append(l, p)
			continue
		}
		to := p.At + p.Long
		i := sort.Search(len(ends), func(i int) bool { return ends[i] > p.At })
		for at := p.At; at < to; i++ {
			start := ends[i] - size(first[i])
			stop := min(ends[i], to)
			l = append(l, cut(first[i], at-start, stop-start))
			at = stop
		}
	}
	return l
}

// cut returns what makes the bytes of a piece from a place on, and before another one.
func cut(p api.Piece, from, to int) api.Piece {
	if p.Data != "" {
		return api.Piece{Data: p.Data[from:to]}
	}
	return api.Piece{At: p.At + from, Long: to - from}
}

// join makes one piece of those that follow each other. What is joined ends as its last piece does, so that one way through
// the list leaves nothing to join.
func join(l []api.Piece) []api.Piece {
	var r []api.Piece
	for from := 0; from < len(l); {
		to := from + 1
		for to < len(l) && follows(l[to-1], l[to]) {
			to++
		}
		r = append(r, one(l[from:to]))
		from = to
	}
	return r
}

func follows(p, q api.Piece) bool {
	if p.Data == "" && q.Data == "" {
		return p.At+p.Long == q.At
	}
	return p.Data != "" && q.Data != ""
}

// one returns the piece that makes what these pieces make, each of which follows the one before.
func one(l []api.Piece) api.Piece {
	whole := api.Piece{At: l[0].At}
	var data strings.Builder
	for _, p := range l {
		whole.Long += p.Long
		data.WriteString(p.Data)
	}
	whole.Data = data.String()
	return whole
}
