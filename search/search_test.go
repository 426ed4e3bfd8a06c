package search

import (
	"fmt"
	"math"
	"slices"
	"sync"
	"testing"

	"fellrunner/api"
	"fellrunner/cost"
	"fellrunner/flood"
	"fellrunner/grid"
	"fellrunner/reach"
)

// wild: numbers that are no corner of any grid.
var wild = []int{math.MinInt, math.MinInt + 1, -api.MaxCells, -17, -2, -1, api.MaxCells, api.MaxCells + 1, math.MaxInt - 1, math.MaxInt}

// ring: the document's map, whose corners stand round its walls: 0, 4, 14, 17, 15, and 0 again.
func ring(t *testing.T, most int) *field {
	t.Helper()
	return fieldOf(t, drawn(t, ".....", ".@@@.", ".@...", "....."), most)
}

// pillars: the greatest grid, with walls at each second place of each second row.
func pillars(t *testing.T) *grid.Grid {
	t.Helper()
	g := free(t, api.MaxSide, api.MaxSide)
	for cell := range g.Cells() {
		if cell%api.MaxSide%2 == 1 && cell/api.MaxSide%2 == 1 {
			setGrid(t, g, cell)
		}
	}
	return g
}

// checkLevels: corners have levels, so that a test tests what it says.
func (f *field) checkLevels(t *testing.T, want map[int]int) {
	t.Helper()
	for n, level := range want {
		if got, err := f.l.Level(n); got != level || err != nil {
			t.Fatalf("Level(%d) = %d, %v, want %d", n, got, err, level)
		}
	}
}

// L1: by hand, however many levels there may be: the way, and what it costs with the edges of both ends.
func TestByHand(t *testing.T) {
	for most := 1; most <= api.MaxLevel; most++ {
		f := ring(t, most)
		f.checkWay(t, at(0), at(4), api.Cost{S: 4}, 0, 4)
		f.checkWay(t, at(0), at(14), api.Cost{S: 6}, 0, 4, 14)
		f.checkWay(t, at(14), at(0), api.Cost{S: 6}, 14, 4, 0)
		f.checkWay(t, at(0), at(17), api.Cost{S: 5}, 0, 15, 17)
		f.checkWay(t, at(15), at(4), api.Cost{S: 5, D: 1}, 15, 17, 14, 4)
		f.checkWay(t, hops(hop(4, 3, 2)), hops(hop(15, 7, 1)), api.Cost{S: 15, D: 4}, 4, 14, 17, 15)
		f.checkWay(t, hops(hop(14, 1, 0), hop(0, 0, 1)), hops(hop(17, 2, 0), hop(4, 0, 2)), api.Cost{S: 4, D: 1}, 14, 17)
	}
}

// L1: out or in without an edge, or both.
func TestNoEdges(t *testing.T) {
	for most := 1; most <= api.MaxLevel; most++ {
		f := ring(t, most)
		some := hops(hop(0, 1, 0), hop(17, 0, 1))
		for _, none := range [][]api.Edge{nil, {}} {
			f.checkNone(t, none, some)
			f.checkNone(t, some, none)
			f.checkNone(t, none, none)
			f.checkNone(t, none, nil)
		}
	}
}

// L1: levels without a corner, or with one.
func TestFewCorners(t *testing.T) {
	for most := 1; most <= api.MaxLevel; most++ {
		for _, g := range []*grid.Grid{drawn(t, "."), drawn(t, "@"), drawn(t, "@@@", "...", "@@@"), free(t, api.MaxSide, api.MaxSide)} {
			f := fieldOf(t, g, most)
			f.checkNone(t, nil, nil)
			for n := range g.Cells() {
				f.checkNone(t, at(n), at(n))
			}
		}
		f := fieldOf(t, drawn(t, "@...", "....", "...."), most)
		f.checkWay(t, at(5), at(5), api.Cost{}, 5)
		f.checkWay(t, hops(hop(5, 1, 2)), hops(hop(5, 3, 5)), api.Cost{S: 4, D: 7}, 5)
		f.checkNone(t, at(4), at(5))
		f.checkNone(t, at(5), at(6))
	}
}

// L1: edges that lead to what is no corner lead nowhere: cells that are free or blocked, and numbers that are no cell.
func TestNowhere(t *testing.T) {
	for most := 1; most <= api.MaxLevel; most++ {
		f := ring(t, most)
		for _, n := range append(slices.Clone(wild), 1, 5, 6, 7, 10, 16, 19, 20) {
			f.checkNone(t, at(n), at(0))
			f.checkNone(t, at(0), at(n))
			f.checkNone(t, at(n), at(n))
			for _, out := range [][]api.Edge{hops(hop(n, 0, 0), hop(0, 5, 5)), hops(hop(0, 5, 5), hop(n, 0, 0))} {
				f.checkWay(t, out, at(14), api.Cost{S: 11, D: 5}, 0, 4, 14)
				f.checkWay(t, at(14), out, api.Cost{S: 11, D: 5}, 14, 4, 0)
				f.checkWay(t, out, out, api.Cost{S: 10, D: 10}, 0)
			}
		}
	}
}

// L1: an edge of out and one of in lead to the same corner, so that the way is one corner; unless over another one it is nearer.
func TestSameCorner(t *testing.T) {
	for most := 1; most <= api.MaxLevel; most++ {
		f := ring(t, most)
		for _, n := range f.r.Nodes() {
			f.checkWay(t, at(n), at(n), api.Cost{}, n)
			f.checkWay(t, hops(hop(n, 2, 7)), hops(hop(n, 1, 0)), api.Cost{S: 3, D: 7}, n)
		}
		f.checkWay(t, hops(hop(0, 1, 0), hop(4, 1, 0)), hops(hop(4, 3, 0), hop(17, 0, 0)), api.Cost{S: 4}, 4)
		f.checkWay(t, hops(hop(0, 9, 0), hop(4, 1, 0)), hops(hop(0, 9, 0), hop(14, 1, 0)), api.Cost{S: 4}, 4, 14)
	}
}

// L1: several edges of out, or of in, lead to one corner, at other costs: the least counts, whichever comes first.
func TestSeveralEdges(t *testing.T) {
	costs := []api.Edge{hop(0, 7, 0), hop(0, 0, 5), hop(0, 8, 0), hop(0, 7, 0)}
	for most := 1; most <= api.MaxLevel; most++ {
		f := ring(t, most)
		for first := range costs {
			several := slices.Concat(costs[first:], costs[:first])
			for range 2 {
				f.checkWay(t, several, at(4), api.Cost{S: 11}, 0, 4)
				f.checkWay(t, at(4), several, api.Cost{S: 11}, 4, 0)
				f.checkWay(t, several, several, api.Cost{S: 14}, 0)
				f.checkWay(t, slices.Concat(at(15), several), at(4), api.Cost{S: 5, D: 1}, 15, 17, 14, 4)
				slices.Reverse(several)
			}
		}
	}
}

// L1: ways that go up alone, down alone, up and down, and along the top, over edges of the graph and over such as were added.
func TestUpAndDown(t *testing.T) {
	f := ring(t, 3)
	f.checkLevels(t, map[int]int{0: 1, 4: 2, 14: 1, 15: 2, 17: 3})
	f.checkWay(t, at(14), at(17), api.Cost{S: 1, D: 1}, 14, 17)
	f.checkWay(t, at(0), at(17), api.Cost{S: 5}, 0, 15, 17)
	f.checkWay(t, at(4), at(17), api.Cost{S: 3, D: 1}, 4, 14, 17)
	f.checkWay(t, at(17), at(14), api.Cost{S: 1, D: 1}, 17, 14)
	f.checkWay(t, at(17), at(0), api.Cost{S: 5}, 17, 15, 0)
	f.checkWay(t, at(17), at(4), api.Cost{S: 3, D: 1}, 17, 14, 4)
	f.checkWay(t, at(0), at(14), api.Cost{S: 6}, 0, 4, 14)
	f.checkWay(t, at(14), at(15), api.Cost{S: 3, D: 1}, 14, 17, 15)
	f.checkWay(t, at(4), at(15), api.Cost{S: 5, D: 1}, 4, 14, 17, 15)
	f = ring(t, 2)
	f.checkLevels(t, map[int]int{0: 1, 4: 2, 14: 1, 15: 2, 17: 2})
	f.checkWay(t, at(15), at(17), api.Cost{S: 2}, 15, 17)
	f.checkWay(t, at(4), at(15), api.Cost{S: 5, D: 1}, 4, 14, 17, 15)
	f.checkWay(t, at(15), at(4), api.Cost{S: 5, D: 1}, 15, 17, 14, 4)
	f = ring(t, 1)
	f.checkLevels(t, map[int]int{0: 1, 4: 1, 14: 1, 15: 1, 17: 1})
	f.checkWay(t, at(4), at(15), api.Cost{S: 5, D: 1}, 4, 14, 17, 15)
}

// L1: between corners that walls cut apart there is no way; to those of one side there is.
func TestCutApart(t *testing.T) {
	g := drawn(t, "...@....", ".@.@.@..", "...@....", "...@..@.", "...@....")
	for most := 1; most <= api.MaxLevel; most++ {
		f := fieldOf(t, g, most)
		f.checkNone(t, at(0), at(4))
		f.checkNone(t, at(4), at(0))
		f.checkNone(t, hops(hop(0, 1, 0), hop(2, 1, 0)), hops(hop(4, 1, 0), hop(6, 1, 0)))
		f.checkWay(t, hops(hop(0, 0, 0), hop(4, 9, 0)), hops(hop(6, 1, 1), hop(22, 9, 9)), api.Cost{S: 12, D: 1}, 4, 6)
		f.checkWay(t, hops(hop(0, 0, 0), hop(4, 9, 0)), hops(hop(6, 1, 1), hop(2, 9, 9)), api.Cost{S: 12, D: 1}, 4, 6)
		for _, a := range f.r.Nodes() {
			for _, b := range f.r.Nodes() {
				if (a%8 < 3) != (b%8 < 3) {
					f.checkNone(t, at(a), at(b))
				} else if f.check(t, at(a), at(b), nothing) == nil {
					t.Errorf("no way from %d to %d", a, b)
				}
			}
		}
	}
}

// L1: several ways that cost the same: one of them is told.
func TestSeveralWays(t *testing.T) {
	for most := 1; most <= api.MaxLevel; most++ {
		f := fieldOf(t, drawn(t, ".....", ".@@@.", ".@@@.", ".@@@.", "....."), most)
		for _, g := range f.guesses(at(24)) {
			way := f.check(t, at(0), at(24), g)
			if !slices.Equal(way, []int{0, 4, 24}) && !slices.Equal(way, []int{0, 20, 24}) {
				t.Errorf("way %v", way)
			}
			out := hops(hop(4, 3, 0), hop(20, 3, 0), hop(4, 3, 0))
			way = f.check(t, out, at(24), g)
			if !slices.Equal(way, []int{4, 24}) && !slices.Equal(way, []int{20, 24}) {
				t.Errorf("way %v", way)
			}
		}
		for _, g := range f.guesses(hops(hop(4, 2, 0), hop(20, 2, 0))) {
			way := f.check(t, hops(hop(0, 1, 0), hop(24, 1, 0)), hops(hop(4, 2, 0), hop(20, 2, 0)), g)
			if len(way) != 2 {
				t.Errorf("way %v", way)
			}
		}
	}
}

// L1: what costs least in all, though its first edge does not, or its last one, or both.
func TestLeastInAll(t *testing.T) {
	for most := 1; most <= api.MaxLevel; most++ {
		f := ring(t, most)
		out, in := hops(hop(0, 1, 0), hop(14, 5, 0)), hops(hop(15, 1, 0), hop(17, 2, 0))
		f.checkWay(t, out, at(17), api.Cost{S: 6}, 0, 15, 17)
		f.checkWay(t, hops(hop(0, 1, 0), hop(14, 3, 0)), at(17), api.Cost{S: 4, D: 1}, 14, 17)
		f.checkWay(t, at(17), hops(hop(0, 1, 0), hop(14, 3, 0)), api.Cost{S: 4, D: 1}, 17, 14)
		f.checkWay(t, at(14), in, api.Cost{S: 3, D: 1}, 14, 17)
		f.checkWay(t, hops(hop(0, 0, 0), hop(4, 0, 1)), hops(hop(17, 0, 0), hop(14, 0, 1)), api.Cost{S: 2, D: 2}, 4, 14)
		// By little: 11 is less than 5 diagonal steps and 4, and 12 is more.
		f.checkWay(t, hops(hop(0, 0, 5), hop(4, 11, 0)), at(14), api.Cost{S: 13}, 4, 14)
		f.checkWay(t, hops(hop(0, 0, 5), hop(4, 12, 0)), at(14), api.Cost{S: 6, D: 5}, 0, 4, 14)
	}
}

// L1: a cost is told with the greatest costs of both ends, too.
func TestFar(t *testing.T) {
	const far = api.Far
	for most := 1; most <= api.MaxLevel; most++ {
		f := ring(t, most)
		f.checkWay(t, hops(hop(4, far, far)), hops(hop(15, far, far)), api.Cost{S: 2*far + 5, D: 2*far + 1}, 4, 14, 17, 15)
		f.checkWay(t, hops(hop(4, far, far), hop(0, far, far-1)), hops(hop(15, far-1, far)), api.Cost{S: 2*far + 2, D: 2*far - 1}, 0, 15)
		f.checkWay(t, hops(hop(4, far, 0), hop(0, 0, 741455)), at(4), api.Cost{S: far}, 4)
		f.checkWay(t, hops(hop(17, far, 0), hop(14, 0, 741456)), at(17), api.Cost{S: far}, 17)
		f.checkWay(t, hops(hop(17, far, 0), hop(14, 0, 741453)), at(17), api.Cost{S: 1, D: 741454}, 14, 17)
	}
}

// L1: on the greatest grid with many corners, edges that were added over others that were added are told corner by corner.
func TestAddedDeep(t *testing.T) {
	var costs []api.Cost
	for most := 1; most <= api.MaxLevel; most++ {
		f := fieldOf(t, pillars(t), most)
		nodes := f.r.Nodes()
		if (most > 1) != (f.l.Added() > 0) {
			t.Errorf("most %d: %d edges were added", most, f.l.Added())
		}
		first, last := nodes[0], nodes[len(nodes)-1]
		_, c, _ := Best(f.l, at(first), at(last), nothing)
		costs = append(costs, c)
		d := die(most)
		for range 40 {
			a, b := nodes[d.n(len(nodes))], nodes[d.n(len(nodes))]
			for _, g := range f.guesses(at(b)) {
				f.check(t, at(a), at(b), g)
			}
		}
	}
	if len(slices.Compact(slices.Clone(costs))) != 1 {
		t.Errorf("costs by levels: %v", costs)
	}
}

// shapes: how often the best ways over levels had to be of a kind.
type shapes struct{ one, up, down, both, along, none int }

// climb: what corners cost that are come to from one over edges to greater levels alone.
func (f *field) climb(from int) map[int]api.Cost {
	known := map[int]api.Cost{from: {}}
	for work := []int{from}; len(work) > 0; work = work[1:] {
		n := work[0]
		edges, _ := f.l.Edges(n)
		low, _ := f.l.Level(n)
		for _, e := range edges {
			high, _ := f.l.Level(e.To)
			by := cost.Add(known[n], e.C)
			if old, was := known[e.To]; high > low && (!was || cost.Compare(by, old) < 0) {
				known[e.To] = by
				work = append(work, e.To)
			}
		}
	}
	return known
}

// note of which kind the ways between two corners are that cost so much.
func (s *shapes) note(f *field, a, b int, c api.Cost, found bool) {
	from, to := f.climb(a), f.climb(b)
	peak := false
	for n, up := range from {
		down, is := to[n]
		peak = peak || is && cost.Add(up, down) == c
	}
	up, isUp := from[b]
	down, isDown := to[a]
	switch {
	case !found:
		s.none++
	case a == b:
		s.one++
	case isUp && up == c:
		s.up++
	case isDown && down == c:
		s.down++
	case peak:
		s.both++
	default:
		s.along++
	}
}

// L1: all pairs of corners of drawn grids: ways of each kind come about, and are right.
func TestAllPairs(t *testing.T) {
	var s shapes
	d := die(21)
	for i := range 90 {
		f := fieldOf(t, plotOf(t, &d, 11), 1+i%api.MaxLevel)
		for _, b := range f.r.Nodes() {
			rests := f.left(at(b))
			for _, a := range f.r.Nodes() {
				way, c, found := Best(f.l, at(a), at(b), func(n int) api.Cost { return f.straight(n, at(b)) })
				want, can := rests[a]
				if c != want || found != can {
					t.Fatalf("from %d to %d: %v, %v, want %v, %v", a, b, c, found, want, can)
				}
				if found && f.sum(t, at(a), at(b), way) != c {
					t.Fatalf("from %d to %d: %v doesn't cost %v", a, b, way, c)
				}
				s.note(f, a, b, c, found)
			}
		}
	}
	for _, k := range []int{s.one, s.up, s.down, s.both, s.along, s.none} {
		if k < 20 {
			t.Errorf("not all came about: %+v", s)
		}
	}
}

// L1: all walls of 4 x 3 cells, drawn edges.
func TestAllSmall(t *testing.T) {
	d := die(22)
	for walls := range 1 << 12 {
		g := free(t, 4, 3)
		for cell := range 12 {
			if walls>>cell&1 == 1 {
				setGrid(t, g, cell)
			}
		}
		f := fieldOf(t, g, 1+d.n(api.MaxLevel))
		for range 3 {
			out, in := someHops(&d, f, 3), someHops(&d, f, 3)
			for _, guess := range f.guesses(in) {
				f.check(t, out, in, guess)
			}
		}
		if t.Failed() {
			t.Fatalf("walls %b", walls)
		}
	}
}

// L1: drawn grids and edges, each guess, and however many levels: the cost is the same.
func TestDrawn(t *testing.T) {
	d := die(23)
	for range 150 {
		g := plotOf(t, &d, api.MaxSide)
		plain := fieldOf(t, g, 1)
		fields := []*field{plain, fieldOf(t, g, 2+d.n(api.MaxLevel-2)), fieldOf(t, g, api.MaxLevel)}
		for range 4 {
			out, in := someHops(&d, plain, 5), someHops(&d, plain, 5)
			want, can := plain.least(out, in)
			guesses := plain.guesses(in)
			for _, f := range fields {
				for name, guess := range guesses {
					way, c, found := Best(f.l, out, in, guess)
					if c != want || found != can || (len(way) > 0) != can {
						t.Fatalf("Best(%v, %v, %s) = %v, %v, %v, want %v, %v", out, in, name, way, c, found, want, can)
					}
					if found && plain.sum(t, out, in, way) != c {
						t.Fatalf("Best(%v, %v, %s) = %v, %v", out, in, name, way, c)
					}
				}
			}
		}
	}
}

// W3: corners are enough: from cell to cell, where they aren't directly near, it is as far as over cells.
func TestAsOverCells(t *testing.T) {
	d := die(24)
	for range 60 {
		f := fieldOf(t, plotOf(t, &d, 12), 1+d.n(api.MaxLevel))
		for range 12 {
			a, b := d.n(f.g.Cells()), d.n(f.g.Cells())
			near, err := reach.Direct(f.g, a, b)
			if near || err != nil {
				continue
			}
			out, _ := f.r.Connect(a)
			in, _ := f.r.Connect(b)
			x, y, _ := f.g.Place(b)
			_, c, found := Best(f.l, out, in, func(n int) api.Cost {
				nx, ny, _ := f.g.Place(n)
				return cost.Octile(nx, ny, x, y)
			})
			over, _ := flood.From(f.g, a)
			want, err := over.Cost(b)
			if c != want || found != (err == nil) {
				t.Fatalf("from %d to %d: %v, %v, want %v, %v", a, b, c, found, want, err)
			}
		}
	}
}

// L1: only corners are guessed from.
func TestGuessedFrom(t *testing.T) {
	d := die(25)
	for range 60 {
		f := fieldOf(t, plotOf(t, &d, 9), 1+d.n(api.MaxLevel))
		f.check(t, someHops(&d, f, 5), someHops(&d, f, 5), func(n int) api.Cost {
			if !f.isCorner(n) {
				t.Errorf("a guess from %d, which is no corner", n)
			}
			return api.Cost{}
		})
	}
}

// Z1: what nothing is said of: calls end, and don't panic; without a guess the answer is as with none that tells something.
func TestEnds(t *testing.T) {
	odd := []api.Cost{{S: -1}, {D: -1}, {S: api.Far + 1}, {D: api.Far + 1}, {S: math.MaxInt, D: math.MaxInt}, {S: math.MinInt, D: math.MinInt}, {S: math.MaxInt, D: math.MinInt}, {S: math.MinInt}, {D: math.MaxInt}}
	for most := 1; most <= api.MaxLevel; most++ {
		f := ring(t, most)
		if way, c, found := Best(f.l, at(4), at(15), nil); !slices.Equal(way, []int{4, 14, 17, 15}) || c != (api.Cost{S: 5, D: 1}) || !found {
			t.Errorf("without a guess: %v, %v, %v", way, c, found)
		}
		for i, c := range odd {
			dear := hops(api.Edge{To: 4, C: c, Mid: 7}, hop(0, 1, 1), api.Edge{To: 14, C: c, Mid: math.MinInt})
			for _, guess := range []Guess{nothing, func(int) api.Cost { return c }, func(n int) api.Cost { return odd[(n+i)%len(odd)] }} {
				Best(f.l, dear, at(15), guess)
				Best(f.l, at(15), dear, guess)
				Best(f.l, dear, dear, guess)
				Best(f.l, dear[:1], dear[2:], guess)
				Best(f.l, at(4), at(15), guess)
			}
		}
	}
}

// L1: nothing is said of edges whose costs may not be; here they lead nowhere, so that no sum goes wrong by them.
func TestCostsThatMayNotBe(t *testing.T) {
	const far = api.Far
	for most := 1; most <= api.MaxLevel; most++ {
		f := ring(t, most)
		for _, bad := range []api.Edge{hop(4, -1, 0), hop(4, 0, -1), hop(4, far+1, 0), hop(4, 0, far+1), hop(4, math.MinInt, 0), hop(4, 0, math.MaxInt)} {
			if way, c, found := Best(f.l, hops(bad), at(4), nothing); found || len(way) != 0 || c != (api.Cost{}) {
				t.Errorf("out %v: %v, %v, %v", bad, way, c, found)
			}
			if way, c, found := Best(f.l, at(4), hops(bad), nothing); found || len(way) != 0 || c != (api.Cost{}) {
				t.Errorf("in %v: %v, %v, %v", bad, way, c, found)
			}
			way, c, found := Best(f.l, hops(bad, hop(0, 1, 0)), at(14), nothing)
			if !slices.Equal(way, []int{0, 4, 14}) || c != (api.Cost{S: 7}) || !found {
				t.Errorf("out %v, and another one: %v, %v, %v", bad, way, c, found)
			}
		}
	}
}

// L1: a guess is of use: with a good one fewer corners are come to.
func TestGuessIsOfUse(t *testing.T) {
	for most := 1; most <= 2; most++ {
		f := fieldOf(t, pillars(t), most)
		nodes := f.r.Nodes()
		asked := func(g Guess) int {
			corners := map[int]int{}
			_, _, _ = Best(f.l, at(nodes[0]), at(nodes[2]), func(n int) api.Cost {
				corners[n]++
				return g(n)
			})
			return len(corners)
		}
		guesses := f.guesses(at(nodes[2]))
		if none, just := asked(nothing), asked(guesses["just"]); just == 0 || just >= none {
			t.Errorf("most %d: guessed from %d corners, without a guess from %d", most, just, none)
		}
	}
}

// L1: what an edge of out or in stands for tells nothing.
func TestAnyMid(t *testing.T) {
	for most := 1; most <= api.MaxLevel; most++ {
		f := ring(t, most)
		for _, mid := range append(slices.Clone(wild), 0, 4, 14, 17) {
			out, in := hops(api.Edge{To: 4, Mid: mid}), hops(api.Edge{To: 15, C: api.Cost{S: 1}, Mid: mid})
			f.checkWay(t, out, in, api.Cost{S: 6, D: 1}, 4, 14, 17, 15)
		}
	}
}

// Z2: the levels, out and in aren't changed by it; what stands behind them isn't either, nor is it read.
func TestNotChanged(t *testing.T) {
	d := die(26)
	for range 40 {
		f := fieldOf(t, plotOf(t, &d, 10), 1+d.n(api.MaxLevel))
		was := f.told()
		for range 5 {
			out, in := someHops(&d, f, 6), someHops(&d, f, 6)
			outWas, inWas := slices.Clone(out), slices.Clone(in)
			some, others := out[:len(out)/2], in[:len(in)/2]
			for _, g := range f.guesses(others) {
				f.check(t, some, others, g)
				f.check(t, some[:0], others, g)
				f.check(t, some, others[:0], g)
			}
			if !slices.Equal(out, outWas) || !slices.Equal(in, inWas) {
				t.Errorf("out, in were %v, %v, are %v, %v", outWas, inWas, out, in)
			}
		}
		if is := f.told(); is != was {
			t.Errorf("levels were\n%s, are\n%s", was, is)
		}
	}
}

// Z2: lists that were given out are the caller's: written into, and behind, they change no later answer, nor one another.
func TestGivenOut(t *testing.T) {
	for most := 1; most <= api.MaxLevel; most++ {
		f := fieldOf(t, pillars(t), most)
		nodes := f.r.Nodes()
		was := f.told()
		for i, a := range nodes[:6] {
			b := nodes[len(nodes)-1-i]
			way, _, _ := Best(f.l, at(a), at(b), nothing)
			twin, _, _ := Best(f.l, at(a), at(b), nothing)
			kept := slices.Clone(twin)
			way = way[:cap(way)]
			for k := range way {
				way[k] = -7
			}
			again, _, _ := Best(f.l, at(a), at(b), nothing)
			if !slices.Equal(twin, kept) || !slices.Equal(again, kept) {
				t.Errorf("from %d to %d: was %v, is %v, again %v", a, b, kept, twin, again)
			}
		}
		if is := f.told(); is != was {
			t.Errorf("levels were\n%s, are\n%s", was, is)
		}
	}
}

// Z2: what is handed in isn't kept: it may be changed, and an answer that was given stays, and the same is answered to the same later.
func TestNotKept(t *testing.T) {
	f := ring(t, 3)
	out, in := at(4), at(15)
	way, _, _ := Best(f.l, out, in, nothing)
	out[0], in[0] = hop(0, 9, 9), hop(0, 9, 9)
	if !slices.Equal(way, []int{4, 14, 17, 15}) {
		t.Errorf("way %v", way)
	}
	f.checkWay(t, out, in, api.Cost{S: 18, D: 18}, 0)
	f.checkWay(t, at(4), at(15), api.Cost{S: 5, D: 1}, 4, 14, 17, 15)
}

// Z2, W4: asked again, in another order, and all at once, the same is answered, way and all.
func TestAllAtOnce(t *testing.T) {
	f := fieldOf(t, pillars(t), 4)
	nodes := f.r.Nodes()
	answers := func(back bool) string {
		told := make([]string, 0, 40)
		for i := range 40 {
			if back {
				i = 39 - i
			}
			way, c, found := Best(f.l, at(nodes[i]), hops(hop(nodes[len(nodes)-1-i], 1, 0), hop(nodes[i/2], 30, 0)), nothing)
			told = append(told, fmt.Sprint(i, way, c, found))
		}
		slices.Sort(told)
		return fmt.Sprint(told)
	}
	want := answers(false)
	got := make([]string, 8)
	var all sync.WaitGroup
	for i := range got {
		all.Go(func() { got[i] = answers(i%2 == 1) })
	}
	all.Wait()
	for _, s := range append(got, answers(true)) {
		if s != want {
			t.Errorf("told %s\nwant %s", s, want)
		}
	}
}
