package delta_test

import (
	"cmp"
	"math"
	"math/rand/v2"
	"slices"
	"strings"
	"testing"

	"outfitter/api"
	"outfitter/delta"
)

// ways reads ways with blanks between them: 0>1:5 leads from 0 to 1 and costs 5.
func ways(text string) []api.Way {
	var l []api.Way
	for _, word := range strings.Fields(text) {
		from, word, _ := strings.Cut(word, ">")
		to, cost, _ := strings.Cut(word, ":")
		l = append(l, api.Way{From: whole(from), To: whole(to), Cost: whole(cost)})
	}
	return l
}

func TestP99CheckWays(t *testing.T) {
	two := []int{0, 1000000000}
	for i, c := range []struct {
		l     []api.Way
		sizes []int
		want  api.Errno
	}{
		{nil, nil, api.OK},
		{nil, two, api.OK},
		{ways("0>1:0 1>0:1000000000 0>1:7 0>1:7"), two, api.OK},
		{nil, make([]int, 200), api.OK},
		{nil, make([]int, 201), api.ErrLarge},
		{slices.Repeat(ways("0>1:5"), 1000), two, api.OK},
		{slices.Repeat(ways("0>1:5"), 1001), two, api.ErrLarge},
		{ways("0>199:5"), make([]int, 200), api.OK},
		{nil, []int{-1}, api.ErrRange},
		{nil, []int{0, 0, 1000000001}, api.ErrRange},
		{nil, []int{math.MinInt}, api.ErrRange},
		{nil, []int{math.MaxInt}, api.ErrRange},
		{ways("0>1:5"), nil, api.ErrNone},
		{ways("0>1:5"), []int{1}, api.ErrNone},
		{ways("0>2:5"), two, api.ErrNone},
		{ways("2>0:5"), two, api.ErrNone},
		{ways("0>-1:5"), two, api.ErrNone},
		{ways("-1>0:5"), two, api.ErrNone},
		{[]api.Way{{From: math.MinInt, To: math.MaxInt}}, two, api.ErrNone},
		{ways("0>0:5"), two, api.ErrForm},
		{ways("1>1:0"), two, api.ErrForm},
		{ways("0>1:-1"), two, api.ErrRange},
		{ways("0>1:1000000001"), two, api.ErrRange},
		{[]api.Way{{From: 0, To: 1, Cost: math.MinInt}}, two, api.ErrRange},
		{[]api.Way{{From: 0, To: 1, Cost: math.MaxInt}}, two, api.ErrRange},
		// What comes first.
		{make([]api.Way, 1001), []int{-1}, api.ErrLarge},
		{ways("2>2:-1"), []int{-1, 0}, api.ErrRange},
		{ways("2>2:-1"), two, api.ErrNone},
		{ways("-1>-1:0"), two, api.ErrNone},
		{ways("1>1:-1"), two, api.ErrForm},
		{ways("0>1:0 0>1:-1 0>0:0 0>2:0"), two, api.ErrRange},
		{ways("0>1:0 0>0:0 0>1:-1 0>2:0"), two, api.ErrForm},
		{ways("0>1:0 0>2:0 0>0:0 0>1:-1"), two, api.ErrNone},
	} {
		if e := delta.CheckWays(c.l, c.sizes); e != c.want {
			t.Errorf("%d: %d, not %d", i, e, c.want)
		}
		for _, to := range []int{0, 1, 2, -1} {
			steps, cost, e := delta.Best(c.l, c.sizes, 3, to)
			want := c.want
			if want == api.OK && (len(c.sizes) <= 3 || to < 0) {
				want = api.ErrNone
			}
			if e != want || e != api.OK && (len(steps) != 0 || cost != 0) {
				t.Errorf("%d: %v, %d, %d, not %d", i, steps, cost, e, want)
			}
		}
	}
}

func TestP99Best(t *testing.T) {
	for _, c := range []struct {
		ways     string
		sizes    []int
		from, to int
		steps    []int
		cost     int
	}{
		{"0>1:5 1>2:5 0>2:11 2>3:90", []int{100, 100, 100, 80}, 0, 2, []int{1, 2}, 10},
		{"0>1:5 1>2:5 0>2:10 2>3:90", []int{100, 100, 100, 80}, 0, 2, []int{2}, 10},
		{"0>1:5 1>2:5 0>2:11 2>3:90", []int{100, 100, 100, 80}, 2, 3, []int{3}, 80},
		{"0>1:5 1>2:5 0>2:11 2>3:90", []int{100, 100, 100, 80}, 3, 0, []int{0}, 100},
		{"0>1:5 1>2:5 0>2:11 2>3:90", []int{100, 100, 100, 80}, -1, 2, []int{2}, 100},
		{"0>1:5 1>2:5 0>2:11 2>3:90", []int{100, 100, 100, 80}, 1, 1, nil, 0},
		{"", []int{7}, -1, 0, []int{0}, 7},
		{"", []int{7}, 0, 0, nil, 0},
		{"", []int{0, 0}, 0, 0, nil, 0},
		{"", []int{0, 0}, 0, 1, []int{1}, 0},
		{"", []int{0, 0}, -1, 1, []int{1}, 0},
		// Afresh, and on from there.
		{"0>1:5", []int{10, 100}, -1, 1, []int{0, 1}, 15},
		{"0>1:5 1>2:6", []int{10, 100, 22}, -1, 2, []int{0, 1, 2}, 21},
		{"0>1:5 1>2:6", []int{10, 100, 21}, -1, 2, []int{2}, 21},
		{"0>1:5", []int{10, 100, 9}, 2, 1, []int{0, 1}, 15},
		{"2>0:50 0>1:5", []int{10, 100, 9}, 2, 1, []int{0, 1}, 15},
		{"2>0:5 0>1:50 3>1:1", []int{10, 100, 9, 8}, 2, 1, []int{3, 1}, 9},
		// The best of several ways between two versions, and only in their direction.
		{"0>1:7 0>1:5 0>1:6", []int{100, 100}, 0, 1, []int{1}, 5},
		{"0>1:5 0>1:7 0>1:6", []int{100, 100}, 0, 1, []int{1}, 5},
		{"0>1:7 0>1:6 0>1:5", []int{100, 100}, 0, 1, []int{1}, 5},
		{"1>0:5", []int{100, 100}, 0, 1, []int{1}, 100},
		// The fewest steps, and then the least list.
		{"0>1:0 1>2:0 2>3:0 0>3:1", []int{9, 9, 9, 9}, 0, 3, []int{1, 2, 3}, 0},
		{"0>1:0 1>2:0 2>3:0 0>2:0", []int{9, 9, 9, 9}, 0, 3, []int{2, 3}, 0},
		{"0>2:4 2>3:4 0>1:4 1>3:4", []int{9, 9, 9, 9}, 0, 3, []int{1, 3}, 8},
		{"0>2:1 2>3:7 0>1:7 1>3:1", []int{9, 9, 9, 9}, 0, 3, []int{1, 3}, 8},
		{"3>2:1 2>0:7 3>1:7 1>0:1", []int{9, 9, 9, 9}, 3, 0, []int{1, 0}, 8},
		{"4>0:1 0>3:1 3>5:1 4>1:1 1>2:1 2>5:1", []int{9, 9, 9, 9, 9, 9}, 4, 5, []int{0, 3, 5}, 3},
		{"4>0:1 0>3:1 3>5:1 0>1:1 1>5:1", []int{9, 9, 9, 9, 9, 9}, 4, 5, []int{0, 1, 5}, 3},
		{"0>1:4 1>3:4 0>2:8 2>3:0 4>3:2", []int{9, 9, 9, 9, 6}, 0, 3, []int{1, 3}, 8},
		{"0>2:8 2>3:0 4>3:2", []int{9, 9, 9, 9, 6}, 0, 3, []int{2, 3}, 8},
		{"1>0:1 2>1:0 3>2:0 4>0:4 5>3:5 5>4:2", []int{99, 99, 99, 99, 99, 99}, 5, 0, []int{4, 0}, 6},
		{"", []int{1000000000, 1000000000}, -1, 0, []int{0}, 1000000000},
	} {
		steps, cost, e := delta.Best(ways(c.ways), c.sizes, c.from, c.to)
		if !slices.Equal(steps, c.steps) || cost != c.cost || e != api.OK {
			t.Errorf("%v: %v, %d, %d", c, steps, cost, e)
		}
	}
}

func TestP99BestErrors(t *testing.T) {
	for _, c := range []struct{ from, to int }{
		{0, 2}, {0, -1}, {-1, -1}, {2, 2}, {2, 0}, {-2, 0}, {-2, -2}, {-1, 2}, {math.MaxInt, 0}, {math.MinInt, 0}, {0, math.MaxInt}, {0, math.MinInt},
	} {
		if steps, cost, e := delta.Best(ways("0>1:5"), []int{1, 1}, c.from, c.to); len(steps) != 0 || cost != 0 || e != api.ErrNone {
			t.Errorf("%v: %v, %d, %d", c, steps, cost, e)
		}
	}
	if steps, cost, e := delta.Best(nil, nil, -1, 0); len(steps) != 0 || cost != 0 || e != api.ErrNone {
		t.Error(steps, cost, e)
	}
}

// every calls f with all ways from a version to another one that come to none twice, and what they cost.
func every(l []api.Way, sizes []int, from, to int, f func(steps []int, cost int)) {
	seen := make([]bool, len(sizes))
	var on func(at int, steps []int, cost int)
	on = func(at int, steps []int, cost int) {
		if at == to {
			f(slices.Clone(steps), cost)
			return
		}
		for v := range sizes {
			if seen[v] || v == from {
				continue
			}
			seen[v] = true
			on(v, append(steps, v), cost+sizes[v])
			for _, w := range l {
				if w.From == at && w.To == v {
					on(v, append(steps, v), cost+w.Cost)
				}
			}
			seen[v] = false
		}
	}
	on(from, nil, 0)
}

func TestP99Chance(t *testing.T) {
	rnd := rand.New(rand.NewPCG(9, 10))
	long := 0
	for range 10000 {
		sizes := make([]int, 1+rnd.IntN(6))
		for i := range sizes {
			sizes[i] = rnd.IntN(1 + rnd.IntN(100))
		}
		var l []api.Way
		for range rnd.IntN(18) {
			w := api.Way{From: rnd.IntN(len(sizes)), To: rnd.IntN(len(sizes)), Cost: rnd.IntN(4)}
			if w.From != w.To {
				l = append(l, w)
			}
		}
		from, to := rnd.IntN(len(sizes)+1)-1, rnd.IntN(len(sizes))
		var want []int
		least := math.MaxInt
		every(l, sizes, from, to, func(steps []int, cost int) {
			better := cmp.Or(cmp.Compare(cost, least), cmp.Compare(len(steps), len(want)), slices.Compare(steps, want))
			if better < 0 {
				want, least = steps, cost
			}
		})
		steps, cost, e := delta.Best(l, sizes, from, to)
		if !slices.Equal(steps, want) || cost != least || e != api.OK {
			t.Fatalf("%v, %v, %d to %d: %v, %d, %d, not %v, %d", l, sizes, from, to, steps, cost, e, want, least)
		}
		if len(steps) > 2 {
			long++
		}
	}
	if long < 100 {
		t.Error("too little is tried:", long)
	}
}

// TestP282Files makes files along the best ways between versions.
func TestP282Files(t *testing.T) {
	rnd := rand.New(rand.NewPCG(11, 12))
	withDelta, afresh := 0, 0
	for range 300 {
		texts := []string{guess(rnd, 100+rnd.IntN(200), 4)}
		for range 1 + rnd.IntN(5) {
			texts = append(texts, changed(rnd, texts[len(texts)-1], 4))
		}
		var sizes []int
		for _, text := range texts {
			sizes = append(sizes, len(text))
		}
		var l []api.Way
		var deltas []api.Delta
		for from := range texts {
			for to := range texts {
				if from == to || rnd.IntN(2) == 0 {
					continue
				}
				d, _ := delta.Make(texts[from], texts[to])
				cost, e := delta.Cost(d)
				if e != api.OK {
					t.Fatal(e)
				}
				deltas = append(deltas, d)
				l = append(l, api.Way{From: from, To: to, Cost: cost})
			}
		}
		from, to := rnd.IntN(len(texts)+1)-1, rnd.IntN(len(texts))
		steps, cost, e := delta.Best(l, sizes, from, to)
		if e != api.OK {
			t.Fatal(e)
		}
		text, at, paid := "", from, 0
		if from >= 0 {
			text = texts[from]
		}
		for _, v := range steps {
			i := slices.IndexFunc(l, func(w api.Way) bool { return w.From == at && w.To == v && w.Cost <= sizes[v] })
			if i < 0 {
				text = texts[v]
				paid += len(text)
				afresh++
			} else {
				b, _ := delta.Print(deltas[i])
				d, e := delta.Parse(b)
				if e != api.OK {
					t.Fatal(e)
				}
				if text, e = delta.Apply(text, d); e != api.OK {
					t.Fatal(e)
				}
				paid += len(b)
				withDelta++
			}
			at = v
		}
		if text != texts[to] || paid != cost {
			t.Fatalf("%v: %q, %d, not %q, %d", steps, text, paid, texts[to], cost)
		}
	}
	if withDelta < 100 || afresh < 50 {
		t.Error("too little is tried:", withDelta, afresh)
	}
}
