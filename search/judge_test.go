package search

import (
	"fmt"
	"slices"
	"strings"
	"testing"

	"fellrunner/api"
	"fellrunner/cost"
	"fellrunner/graph"
	"fellrunner/grid"
	"fellrunner/levels"
)

// die: numbers that look drawn, the same each time.
type die uint64

func (d *die) n(most int) int {
	*d = *d*6364136223846793005 + 1442695040888963407
	return int(uint64(*d>>33) % uint64(most))
}

// drawn: the grid of rows in which '@' is blocked.
func drawn(t *testing.T, rows ...string) *grid.Grid {
	t.Helper()
	g := free(t, len(rows[0]), len(rows))
	for cell, b := range []byte(strings.Join(rows, "")) {
		if b == '@' {
			setGrid(t, g, cell)
		}
	}
	return g
}

// free: a grid without walls.
func free(t *testing.T, w, h int) *grid.Grid {
	t.Helper()
	g, err := grid.New(w, h)
	if err != nil {
		t.Fatal(err)
	}
	return g
}

func setGrid(t *testing.T, g *grid.Grid, cell int) {
	t.Helper()
	if did, err := g.Set(cell, true); !did || err != nil {
		t.Fatalf("Set(%d, true) = %v, %v", cell, did, err)
	}
}

// plotOf: a drawn grid with walls, few or many.
func plotOf(t *testing.T, d *die, most int) *grid.Grid {
	t.Helper()
	g := free(t, 1+d.n(most), 1+d.n(most))
	thin := d.n(12) + 2
	for cell := range g.Cells() {
		if d.n(thin) == 0 {
			setGrid(t, g, cell)
		}
	}
	return g
}

// field: a grid, its graph, and levels over it.
type field struct {
	g *grid.Grid
	r *graph.Graph
	l *levels.Levels
}

func fieldOf(t *testing.T, g *grid.Grid, most int) *field {
	t.Helper()
	r := graph.New(g)
	l, err := levels.New(r, most)
	if err != nil {
		t.Fatalf("levels of at most %d: %v", most, err)
	}
	return &field{g, r, l}
}

// told: all that levels tell of a field's corners.
func (f *field) told() string {
	var s strings.Builder
	fmt.Fprintln(&s, f.l.Top(), f.l.Added(), f.r.Nodes())
	for _, n := range f.r.Nodes() {
		level, err := f.l.Level(n)
		edges, err2 := f.l.Edges(n)
		fmt.Fprintln(&s, n, level, err, edges, err2)
		for _, e := range edges {
			way, err := f.l.Unpack(n, e.To)
			fmt.Fprintln(&s, way, err)
		}
	}
	return s.String()
}

func (f *field) isCorner(n int) bool { return slices.Contains(f.r.Nodes(), n) }

// left: what is left from each corner on to the end, over the graph's own edges: costs are lowered as long as one can be. Corners from which there is no way aren't in it.
func (f *field) left(in []api.Edge) map[int]api.Cost {
	known := map[int]api.Cost{}
	lower := func(n int, c api.Cost) bool {
		if old, was := known[n]; was && cost.Compare(c, old) >= 0 {
			return false
		}
		known[n] = c
		return true
	}
	for _, e := range in {
		if f.isCorner(e.To) {
			lower(e.To, e.C)
		}
	}
	for changed := true; changed; {
		changed = false
		for _, n := range f.r.Nodes() {
			edges, _ := f.r.Edges(n)
			for _, e := range edges {
				if rest, can := known[e.To]; can && lower(n, cost.Add(rest, e.C)) {
					changed = true
				}
			}
		}
	}
	return known
}

// least that a way costs, by the words; false: there is none.
func (f *field) least(out, in []api.Edge) (api.Cost, bool) {
	var least api.Cost
	found := false
	rests := f.left(in)
	for _, e := range out {
		rest, can := rests[e.To]
		if both := cost.Add(e.C, rest); can && (!found || cost.Compare(both, least) < 0) {
			least, found = both, true
		}
	}
	return least, found
}

// cheapest of the edges that lead to a corner.
func cheapest(t *testing.T, edges []api.Edge, to int) api.Cost {
	t.Helper()
	var least api.Cost
	found := false
	for _, e := range edges {
		if e.To == to && (!found || cost.Compare(e.C, least) < 0) {
			least, found = e.C, true
		}
	}
	if !found {
		t.Errorf("no edge of %v leads to %d", edges, to)
	}
	return least
}

// sum of a way's edges, all of the graph's own, and of those from both ends.
func (f *field) sum(t *testing.T, out, in []api.Edge, way []int) api.Cost {
	t.Helper()
	sum := cost.Add(cheapest(t, out, way[0]), cheapest(t, in, way[len(way)-1]))
	for i, n := range way[1:] {
		edges, err := f.r.Edges(way[i])
		at := slices.IndexFunc(edges, func(e api.Edge) bool { return e.To == n })
		if err != nil || at < 0 {
			t.Errorf("way %v: no edge of the graph from %d to %d", way, way[i], n)
			return api.Cost{}
		}
		sum = cost.Add(sum, edges[at].C)
	}
	return sum
}

// check: what is answered is by the words; the way that is.
func (f *field) check(t *testing.T, out, in []api.Edge, g Guess) []int {
	t.Helper()
	want, can := f.least(out, in)
	way, c, found := Best(f.l, out, in, g)
	if c != want || found != can || (len(way) > 0) != can {
		t.Errorf("Best(%v, %v) = %v, %v, %v, want %v, %v", out, in, way, c, found, want, can)
		return nil
	}
	if found {
		if sum := f.sum(t, out, in, way); sum != c {
			t.Errorf("Best(%v, %v) = %v, %v, but it costs %v", out, in, way, c, sum)
		}
	}
	return way
}

// checkWay: just one way is the best one.
func (f *field) checkWay(t *testing.T, out, in []api.Edge, c api.Cost, want ...int) {
	t.Helper()
	for name, g := range f.guesses(in) {
		way, got, found := Best(f.l, out, in, g)
		if !slices.Equal(way, want) || got != c || !found {
			t.Errorf("Best(%v, %v, %s) = %v, %v, %v, want %v, %v", out, in, name, way, got, found, want, c)
		}
		f.check(t, out, in, g)
	}
}

// checkNone: there is no way.
func (f *field) checkNone(t *testing.T, out, in []api.Edge) {
	t.Helper()
	for name, g := range f.guesses(in) {
		way, c, found := Best(f.l, out, in, g)
		if len(way) != 0 || c != (api.Cost{}) || found {
			t.Errorf("Best(%v, %v, %s) = %v, %v, %v, want none", out, in, name, way, c, found)
		}
	}
}

// guesses that are never more than what is left, nor than an edge and the guess from where that leads.
func (f *field) guesses(in []api.Edge) map[string]Guess {
	rests := f.left(in)
	var ends []api.Edge
	for _, e := range in {
		if f.isCorner(e.To) {
			ends = append(ends, api.Edge{To: e.To})
		}
	}
	nearest := f.left(ends)
	return map[string]Guess{
		"nothing": nothing,
		"just":    func(n int) api.Cost { return rests[n] },
		"just, and far where there is no way": func(n int) api.Cost {
			if rest, can := rests[n]; can {
				return rest
			}
			return api.Cost{S: api.Far, D: api.Far}
		},
		"to the nearest end": func(n int) api.Cost { return nearest[n] },
		"as if nothing were in the way": func(n int) api.Cost {
			return f.straight(n, in)
		},
	}
}

// straight: the least of what is left from a corner on, if nothing is in the way.
func (f *field) straight(n int, in []api.Edge) api.Cost {
	var least api.Cost
	found := false
	x, y, _ := f.g.Place(n)
	for _, e := range in {
		tx, ty, _ := f.g.Place(e.To)
		both := cost.Add(e.C, cost.Octile(x, y, tx, ty))
		if f.isCorner(e.To) && (!found || cost.Compare(both, least) < 0) {
			least, found = both, true
		}
	}
	return least
}

// hop: an edge that leads to a corner, by so many straight and diagonal steps.
func hop(n, straight, diagonal int) api.Edge {
	return api.Edge{To: n, C: api.Cost{S: straight, D: diagonal}, Mid: -1}
}

func hops(edges ...api.Edge) []api.Edge { return edges }

// at a corner: an edge that leads to it, for nothing.
func at(n int) []api.Edge { return hops(hop(n, 0, 0)) }

// someHops: drawn edges, most of which lead to corners, some several times to one.
func someHops(d *die, f *field, most int) []api.Edge {
	to := append(f.r.Nodes(), d.n(f.g.Cells()), -1, f.g.Cells())
	var edges []api.Edge
	for range d.n(most + 1) {
		edges = append(edges, hop(to[d.n(len(to))], d.n(6), d.n(5)))
	}
	return edges
}
