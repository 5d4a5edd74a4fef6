package delta

import (
	"math"
	"slices"

	"outfitter/api"
)

const (
	maxSizes = 200
	maxCost  = 1000000000
	nothing  = -1 // where one is when nothing is there
)

// CheckWays validates ways between versions of these sizes.
func CheckWays(l []api.Way, sizes []int) api.Errno {
	if len(l) > api.MaxWays || len(sizes) > maxSizes {
		return api.ErrLarge
	}
	for _, n := range sizes {
		if !isCost(n) {
			return api.ErrRange
		}
	}
	for _, w := range l {
		switch {
		case !isPlace(w.From, len(sizes)) || !isPlace(w.To, len(sizes)):
			return api.ErrNone
		case w.From == w.To:
			return api.ErrForm
		case !isCost(w.Cost):
			return api.ErrRange
		}
	}
	return api.OK
}

func isCost(n int) bool { return 0 <= n && n <= maxCost }

func isPlace(n, many int) bool { return 0 <= n && n < many }

// Best returns the versions that one comes to on the way with the least cost, and this cost.
func Best(l []api.Way, sizes []int, from, to int) ([]int, int, api.Errno) {
	if e := CheckWays(l, sizes); e != api.OK {
		return nil, 0, e
	}
	if !isPlace(to, len(sizes)) || from != nothing && !isPlace(from, len(sizes)) {
		return nil, 0, api.ErrNone
	}
	if from == nothing {
		from = len(sizes) // one more place, to which no step leads, and from which no way does
	}
	cost := costs(l, sizes)
	left := rests(len(sizes), to, cost)
	var steps []int
	for at := from; at != to; {
		at = next(at, left, cost)
		steps = append(steps, at)
	}
	return steps, left[from].cost, api.OK
}

// costs returns what a step costs at least, from a place to a version.
func costs(l []api.Way, sizes []int) func(from, to int) int {
	ways := map[[2]int]int{}
	for _, w := range l {
		step := [2]int{w.From, w.To}
		c, has := ways[step]
		if !has || w.Cost < c {
			ways[step] = w.Cost
		}
	}
	return func(from, to int) int {
		c, has := ways[[2]int{from, to}]
		if !has {
			return sizes[to]
		}
		return min(c, sizes[to])
	}
}

// rest is what is left of the best way from a place.
type rest struct{ cost, steps int }

func (r rest) before(s rest) bool {
	if r.cost != s.cost {
		return r.cost < s.cost
	}
	return r.steps < s.steps
}

// ahead is the rest with a step of this cost ahead of it.
func (r rest) ahead(cost int) rest { return rest{r.cost + cost, r.steps + 1} }

// rests returns the rests from all versions, and from the place behind them, to a version. (Dijkstra's way: the versions are
// taken by their rests, each of which is right when its turn comes, since every step makes a rest more.)
func rests(many, to int, cost func(from, to int) int) []rest {
	left := slices.Repeat([]rest{{cost: math.MaxInt}}, many+1)
	left[to] = rest{}
	taken := make([]bool, many)
	for range many {
		best := many
		for i := range many {
			if !taken[i] && (best == many || left[i].before(left[best])) {
				best = i
			}
		}
		taken[best] = true
		for i := range left {
			if r := left[best].ahead(cost(i, best)); r.before(left[i]) {
				left[i] = r
			}
		}
	}
	return left
}

// next returns the least version to which a best way from a place leads first.
func next(at int, left []rest, cost func(from, to int) int) int {
	to := 0
	for left[to].ahead(cost(at, to)) != left[at] {
		to++
	}
	return to
}
