package graph

import (
	"fmt"
	"math"
	"slices"
	"strings"
	"sync"
	"testing"

	"fellrunner/api"
	"fellrunner/corner"
	"fellrunner/cost"
	"fellrunner/flood"
	"fellrunner/grid"
	"fellrunner/reach"
)

// die: numbers that look drawn, the same each time.
type die uint64

func (d *die) n(most int) int {
	*d = *d*6364136223846793005 + 1442695040888963407
	return int(uint64(*d>>33) % uint64(most))
}

// wild: numbers that are no cell of any grid.
var wild = []int{math.MinInt, math.MinInt + 1, -api.MaxCells, -17, -1, api.MaxCells, api.MaxCells + 1, math.MaxInt - 1, math.MaxInt}

// drawn: the grid of rows in which '@' is blocked.
func drawn(t *testing.T, rows ...string) *grid.Grid {
	t.Helper()
	g := free(t, len(rows[0]), len(rows))
	for cell, b := range []byte(strings.Join(rows, "")) {
		if b == '@' {
			setGrid(t, g, cell, true)
		}
	}
	return g
}

// free: a grid without walls.
func free(t *testing.T, w, h int) *grid.Grid {
	t.Helper()
	g, err := grid.New(w, h)
	if err != nil {
		t.Fatal(err)
	}
	return g
}

func setGrid(t *testing.T, g *grid.Grid, cell int, blocked bool) {
	t.Helper()
	if did, err := g.Set(cell, blocked); !did || err != nil {
		t.Fatalf("Set(%d, %v) = %v, %v", cell, blocked, did, err)
	}
}

// setGraph: a cell is set in a graph, which answers that it changed, or that it was so.
func setGraph(t *testing.T, r *Graph, cell int, blocked, want bool) {
	t.Helper()
	if did, err := r.Set(cell, blocked); did != want || err != nil {
		t.Fatalf("Set(%d, %v) = %v, %v, want %v", cell, blocked, did, err, want)
	}
}

// plotOf: a drawn grid with walls, few or many.
func plotOf(t *testing.T, d *die, most int) *grid.Grid {
	t.Helper()
	g := free(t, d.n(most)+1, d.n(most)+1)
	thin := d.n(12) + 2
	for cell := range g.Cells() {
		if d.n(thin) == 0 {
			setGrid(t, g, cell, true)
		}
	}
	return g
}

func isFree(g *grid.Grid, cell int) bool {
	is, err := g.Free(cell)
	return is && err == nil
}

// told: all that a graph tells of its grid's cells, and of some numbers that are none.
func told(r *Graph) string {
	s := fmt.Sprintln("nodes", r.Nodes())
	for cell := -1; cell <= r.Grid().Cells(); cell++ {
		edges, err := r.Edges(cell)
		links, err2 := r.Connect(cell)
		s += fmt.Sprintln(cell, edges, err, links, err2)
	}
	return s
}

// judge: by the words, what a graph of a grid is to tell: each cell is held against each corner alone.
func judge(g *grid.Grid) string {
	nodes := corner.All(g)
	s := fmt.Sprintln("nodes", nodes)
	for cell := -1; cell <= g.Cells(); cell++ {
		links, err2 := linksOf(g, cell, nodes)
		edges, err := []api.Edge(nil), error(api.ErrNone)
		if slices.Contains(nodes, cell) {
			edges, err = slices.DeleteFunc(slices.Clone(links), func(e api.Edge) bool { return e.To == cell }), nil
		}
		s += fmt.Sprintln(cell, edges, err, links, err2)
	}
	return s
}

// linksOf a cell: an edge to each corner that is directly near it.
func linksOf(g *grid.Grid, cell int, nodes []int) ([]api.Edge, error) {
	isFree, err := g.Free(cell)
	if err != nil {
		return nil, api.ErrBound
	}
	if !isFree {
		return nil, api.ErrBlocked
	}
	var links []api.Edge
	for _, n := range nodes {
		if direct, _ := reach.Direct(g, cell, n); direct {
			w, _ := g.Size()
			links = append(links, api.Edge{To: n, C: cost.Octile(cell%w, cell/w, n%w, n/w), Mid: -1})
		}
	}
	return links, nil
}

// checkGraph: a graph is that of a grid, by the words; it is for grids that aren't great.
func checkGraph(t *testing.T, r *Graph, g *grid.Grid) bool {
	t.Helper()
	return checkTold(t, r, judge(g))
}

// checkAnew: a graph's corners and edges are those of one of a grid that is laid anew.
func checkAnew(t *testing.T, r *Graph, g *grid.Grid) bool {
	t.Helper()
	return checkLines(t, kept(r), kept(New(g)))
}

// kept: the corners of a graph, with their edges.
func kept(r *Graph) string {
	s := fmt.Sprintln("nodes", r.Nodes())
	for _, n := range r.Nodes() {
		edges, err := r.Edges(n)
		s += fmt.Sprintln(n, edges, err)
	}
	return s
}

func checkTold(t *testing.T, r *Graph, want string) bool {
	t.Helper()
	return checkLines(t, told(r), want)
}

// checkLines: a text is as it should be; else those lines are told that aren't.
func checkLines(t *testing.T, got, want string) bool {
	t.Helper()
	if got == want {
		return true
	}
	lines, wanted := strings.Split(got, "\n"), strings.Split(want, "\n")
	for i := range min(len(lines), len(wanted)) {
		if lines[i] != wanted[i] {
			t.Errorf("told: %s\nwant: %s", lines[i], wanted[i])
		}
	}
	if len(lines) != len(wanted) {
		t.Errorf("%d lines are told, want %d", len(lines), len(wanted))
	}
	return false
}

func checkNodes(t *testing.T, r *Graph, want ...int) {
	t.Helper()
	if got := r.Nodes(); !slices.Equal(got, want) {
		t.Errorf("Nodes() = %v, want %v", got, want)
	}
}

func checkEdges(t *testing.T, r *Graph, c int, want ...api.Edge) {
	t.Helper()
	if got, err := r.Edges(c); !slices.Equal(got, want) || err != nil {
		t.Errorf("Edges(%d) = %v, %v, want %v", c, got, err, want)
	}
}

func checkLinks(t *testing.T, r *Graph, c int, want ...api.Edge) {
	t.Helper()
	if got, err := r.Connect(c); !slices.Equal(got, want) || err != nil {
		t.Errorf("Connect(%d) = %v, %v, want %v", c, got, err, want)
	}
}

func checkNoEdges(t *testing.T, r *Graph, c int) {
	t.Helper()
	if got, err := r.Edges(c); len(got) != 0 || err != error(api.ErrNone) {
		t.Errorf("Edges(%d) = %v, %v, want ErrNone", c, got, err)
	}
}

func checkNoLinks(t *testing.T, r *Graph, c int, want api.Errno) {
	t.Helper()
	if got, err := r.Connect(c); len(got) != 0 || err != error(want) {
		t.Errorf("Connect(%d) = %v, %v, want %v", c, got, err, want)
	}
}

// to: an edge that leads to a corner, by so many straight and diagonal steps.
func to(n, straight, diagonal int) api.Edge {
	return api.Edge{To: n, C: api.Cost{S: straight, D: diagonal}, Mid: -1}
}

// leadsTo: has a corner an edge to another one?
func leadsTo(t *testing.T, r *Graph, from, to int) bool {
	t.Helper()
	edges, err := r.Edges(from)
	if err != nil {
		t.Errorf("Edges(%d): %v", from, err)
	}
	return slices.ContainsFunc(edges, func(e api.Edge) bool { return e.To == to })
}

// checkEdge: between two corners there is an edge, or none, either way.
func checkEdge(t *testing.T, r *Graph, a, b int, want bool) {
	t.Helper()
	if there, back := leadsTo(t, r, a, b), leadsTo(t, r, b, a); there != want || back != want {
		t.Errorf("between %d and %d an edge: there %v, back %v, want %v", a, b, there, back, want)
	}
}

// checkCounts: so many corners, and so many edges, those of both ways counted as one.
func checkCounts(t *testing.T, r *Graph, nodes, edges int) {
	t.Helper()
	ends := 0
	for _, n := range r.Nodes() {
		l, _ := r.Edges(n)
		ends += len(l)
	}
	if len(r.Nodes()) != nodes || ends != 2*edges {
		t.Errorf("%d corners, %d ends of edges, want %d, %d", len(r.Nodes()), ends, nodes, 2*edges)
	}
}

// I1, I2: on the document's map, by hand.
func TestByHand(t *testing.T) {
	r := New(drawn(t, ".....", ".@@@.", ".@...", "....."))
	checkNodes(t, r, 0, 4, 14, 15, 17)
	checkEdges(t, r, 0, to(4, 4, 0), to(15, 3, 0))
	checkEdges(t, r, 4, to(0, 4, 0), to(14, 2, 0))
	checkEdges(t, r, 14, to(4, 2, 0), to(17, 1, 1))
	checkEdges(t, r, 15, to(0, 3, 0), to(17, 2, 0))
	checkEdges(t, r, 17, to(14, 1, 1), to(15, 2, 0))
	checkLinks(t, r, 10, to(0, 2, 0), to(15, 1, 0))
	checkLinks(t, r, 2, to(0, 2, 0), to(4, 2, 0))
	checkLinks(t, r, 19, to(14, 1, 0), to(17, 2, 0))
	checkLinks(t, r, 0, to(0, 0, 0), to(4, 4, 0), to(15, 3, 0))
	checkLinks(t, r, 17, to(14, 1, 1), to(15, 2, 0), to(17, 0, 0))
	checkGraph(t, r, r.Grid())
}

// I3: the document's session, by what it counts.
func TestSession(t *testing.T) {
	r := New(free(t, 5, 4))
	for _, cell := range []int{6, 7, 8, 11} {
		setGraph(t, r, cell, true, true)
	}
	checkCounts(t, r, 5, 5)
	setGraph(t, r, 13, true, true)
	setGraph(t, r, 18, true, true)
	checkCounts(t, r, 4, 3)
	setGraph(t, r, 9, true, true)
	setGraph(t, r, 13, false, true)
	setGraph(t, r, 18, false, true)
	checkCounts(t, r, 3, 2)
	if v := r.Grid().Version(); v != 9 {
		t.Errorf("version %d, want 9", v)
	}
}

// I1, I2: grids without a corner: the least ones, free ones of all sizes, corridors, and one that is all walls.
func TestNoCorner(t *testing.T) {
	plots := []*grid.Grid{drawn(t, "."), drawn(t, "@"), drawn(t, ".@..@"), drawn(t, ".", "@", "."), drawn(t, "@@@", "...", "@@@"), drawn(t, "@@", "@@")}
	for side := range api.MaxSide {
		plots = append(plots, free(t, side+1, api.MaxSide), free(t, api.MaxSide, side+1))
	}
	for _, g := range plots {
		r := New(g)
		checkNodes(t, r)
		for cell := range g.Cells() {
			checkNoEdges(t, r, cell)
			if isFree(g, cell) {
				checkLinks(t, r, cell)
			} else {
				checkNoLinks(t, r, cell, api.ErrBlocked)
			}
		}
	}
}

// I1, I2: a grid with one corner: it has no edges, which is no error, and leads to itself.
func TestOneCorner(t *testing.T) {
	g := drawn(t, "@...", "....", "....")
	r := New(g)
	checkNodes(t, r, 5)
	checkEdges(t, r, 5)
	checkLinks(t, r, 5, to(5, 0, 0))
	checkLinks(t, r, 4, to(5, 1, 0))
	checkLinks(t, r, 10, to(5, 0, 1))
	checkLinks(t, r, 11, to(5, 1, 1))
	checkLinks(t, r, 3, to(5, 1, 1))
	for _, cell := range []int{0, 1, 4, 6, 10, 11} {
		checkNoEdges(t, r, cell)
	}
	checkNoLinks(t, r, 0, api.ErrBlocked)
}

// pillars: the greatest grid, with walls at each second place of each second row: all cells between four walls are corners.
func pillars(t *testing.T) *grid.Grid {
	t.Helper()
	g := free(t, api.MaxSide, api.MaxSide)
	for cell := range g.Cells() {
		if cell%api.MaxSide%2 == 1 && cell/api.MaxSide%2 == 1 {
			setGrid(t, g, cell, true)
		}
	}
	return g
}

// I1: the greatest grid with many corners: each leads to those beside it in its row and its column.
func TestManyCorners(t *testing.T) {
	g := pillars(t)
	r := New(g)
	checkCounts(t, r, 64, 2*7*8)
	checkEdges(t, r, 0, to(2, 2, 0), to(32, 2, 0))
	checkEdges(t, r, 2, to(0, 2, 0), to(4, 2, 0), to(34, 2, 0))
	checkEdges(t, r, 34, to(2, 2, 0), to(32, 2, 0), to(36, 2, 0), to(66, 2, 0))
	checkLinks(t, r, 35, to(34, 1, 0), to(36, 1, 0))
	checkLinks(t, r, 254, to(238, 1, 0))
	checkNodes(t, r, corner.All(g)...)
	checkGraph(t, r, g)
}

// I1: the greatest grid with few corners: an edge may be as long as the grid.
func TestLongEdges(t *testing.T) {
	g := free(t, api.MaxSide, api.MaxSide)
	setGrid(t, g, 0, true)
	setGrid(t, g, 255, true)
	r := New(g)
	checkNodes(t, r, 17, 238)
	checkEdges(t, r, 17, to(238, 0, 13))
	checkEdges(t, r, 238, to(17, 0, 13))
	checkLinks(t, r, 15, to(17, 13, 1), to(238, 13, 1))
	checkLinks(t, r, 2, to(17, 0, 1), to(238, 2, 12))
	// 17 is on the way.
	checkLinks(t, r, 16, to(17, 1, 0))
}

// I1: corners that are directly near, near but not directly, and not near.
func TestKindsOfPairs(t *testing.T) {
	// In a row: those between are on all ways.
	g := drawn(t, "@...@...@", ".........", ".........")
	r := New(g)
	checkNodes(t, r, 10, 12, 14, 16)
	checkEdges(t, r, 10, to(12, 2, 0))
	checkEdges(t, r, 12, to(10, 2, 0), to(14, 2, 0))
	checkEdges(t, r, 14, to(12, 2, 0), to(16, 2, 0))
	checkNear(t, g, 10, 16)
	// 7 is on one of two ways from 4 to 9.
	g = drawn(t, "@..", "..@", "...", "...", ".@.")
	r = New(g)
	checkNodes(t, r, 1, 4, 7, 9, 11)
	checkNear(t, g, 4, 9)
	checkEdge(t, r, 4, 9, false)
	checkEdge(t, r, 4, 7, true)
	checkEdge(t, r, 7, 9, true)
	// Across a wall they aren't near.
	r = New(drawn(t, ".....", ".....", "..@..", ".....", "....."))
	checkNodes(t, r, 6, 8, 16, 18)
	checkEdges(t, r, 6, to(8, 2, 0), to(16, 2, 0))
	checkEdges(t, r, 18, to(8, 2, 0), to(16, 2, 0))
	// Walls cut them apart.
	r = New(drawn(t, "@..@...", "...@..@", "...@..."))
	checkNodes(t, r, 5, 8, 19)
	checkEdges(t, r, 8)
	checkEdges(t, r, 5, to(19, 2, 0))
	checkEdges(t, r, 19, to(5, 2, 0))
}

// checkNear: two cells are near, so that what is told of them hangs on the corners between.
func checkNear(t *testing.T, g *grid.Grid, a, b int) {
	t.Helper()
	if near, err := reach.Near(g, a, b); !near || err != nil {
		t.Errorf("Near(%d, %d) = %v, %v", a, b, near, err)
	}
}

// I1, I2, Z1, Z3: of Edges all that is no corner is ErrNone, whether it is a cell or not; of Connect what is no cell is ErrBound, a blocked one ErrBlocked.
func TestWrongCells(t *testing.T) {
	for _, g := range []*grid.Grid{drawn(t, "."), drawn(t, "@"), drawn(t, "@..", "..."), drawn(t, ".....", ".@@@.", ".@...", "....."), free(t, 16, 1), pillars(t)} {
		r := New(g)
		before := told(r)
		for _, none := range append([]int{g.Cells(), g.Cells() + 1}, wild...) {
			checkNoEdges(t, r, none)
			checkNoLinks(t, r, none, api.ErrBound)
			for _, blocked := range []bool{false, true} {
				if did, err := r.Set(none, blocked); did || err != error(api.ErrBound) {
					t.Errorf("Set(%d, %v) = %v, %v, want ErrBound", none, blocked, did, err)
				}
			}
		}
		for cell := range g.Cells() {
			if !isFree(g, cell) {
				checkNoEdges(t, r, cell)
				checkNoLinks(t, r, cell, api.ErrBlocked)
			}
		}
		if got := *r.Grid(); got != *g {
			t.Error("errors changed the grid")
		}
		checkTold(t, r, before)
	}
}

// I3: a cell that is blocked makes corners beside it, and one that is freed ends them.
func TestSetMakesCorners(t *testing.T) {
	r := New(free(t, 5, 5))
	checkNodes(t, r)
	setGraph(t, r, 12, true, true)
	checkNodes(t, r, 6, 8, 16, 18)
	checkEdges(t, r, 6, to(8, 2, 0), to(16, 2, 0))
	checkLinks(t, r, 7, to(6, 1, 0), to(8, 1, 0))
	checkNoLinks(t, r, 12, api.ErrBlocked)
	setGraph(t, r, 12, false, true)
	checkNodes(t, r)
	checkNoEdges(t, r, 6)
	checkLinks(t, r, 12)
}

// I3: a cell that is blocked ends corners: itself, or those that it leaves no room to turn at; once it is freed they are there again.
func TestSetEndsCorners(t *testing.T) {
	r := New(drawn(t, ".....", ".....", "..@..", ".....", "....."))
	checkNodes(t, r, 6, 8, 16, 18)
	setGraph(t, r, 8, true, true)
	checkNodes(t, r, 2, 4, 6, 14, 16, 18)
	checkNoEdges(t, r, 8)
	checkEdges(t, r, 6, to(2, 0, 1), to(16, 2, 0))
	setGraph(t, r, 8, false, true)
	checkNodes(t, r, 6, 8, 16, 18)
	checkEdges(t, r, 6, to(8, 2, 0), to(16, 2, 0))
	setGraph(t, r, 7, true, true)
	checkNodes(t, r, 1, 3, 16, 18)
	checkNoEdges(t, r, 6)
	checkEdges(t, r, 1, to(3, 2, 0), to(16, 3, 0))
	setGraph(t, r, 7, false, true)
	checkNodes(t, r, 6, 8, 16, 18)
	checkEdges(t, r, 8, to(6, 2, 0), to(18, 2, 0))
}

// I3: an edge whose ends are far from a cell is cut by it, and opened again: if it is on the way, or its corner would be cut, or it makes a corner on the way; farther off it changes nothing of it.
func TestSetFarFromAnEdge(t *testing.T) {
	diagonal := free(t, api.MaxSide, api.MaxSide)
	setGrid(t, diagonal, 0, true)
	setGrid(t, diagonal, 255, true)
	for cell, stays := range map[int]bool{119: false, 120: false, 135: false, 121: false, 151: false, 122: true, 167: true} {
		checkFarEdge(t, diagonal, 17, 238, cell, stays)
	}
	straight := free(t, api.MaxSide, 7)
	setGrid(t, straight, 2*16, true)
	setGrid(t, straight, 2*16+15, true)
	// 17 and 30 lie above and beside the walls, in row 1.
	for cell, stays := range map[int]bool{16 + 7: false, 7: false, 2*16 + 7: false, 3*16 + 7: true, 6*16 + 7: true} {
		checkFarEdge(t, straight, 17, 30, cell, stays)
	}
	// Between 17 and 62 there are ways by rows 1 to 3: a wall on any of them is enough.
	both := free(t, api.MaxSide, 5)
	setGrid(t, both, 0, true)
	setGrid(t, both, 4*16+15, true)
	for cell, stays := range map[int]bool{16 + 8: false, 2*16 + 8: false, 3*16 + 8: false, 8: false, 4*16 + 8: false, 4*16 + 2: false, 13: false, 4*16 + 1: true, 14: true} {
		checkFarEdge(t, both, 17, 3*16+14, cell, stays)
	}
}

// checkFarEdge: there is an edge between two corners; when a cell is blocked it stays, or is cut; when that is freed it is there; and likewise of a graph that begins with the wall.
func checkFarEdge(t *testing.T, g *grid.Grid, a, b, cell int, stays bool) {
	t.Helper()
	r := New(g)
	checkEdge(t, r, a, b, true)
	setGraph(t, r, cell, true, true)
	checkEdge(t, r, a, b, stays)
	setGraph(t, r, cell, false, true)
	checkEdge(t, r, a, b, true)
	walled := g.Copy()
	setGrid(t, walled, cell, true)
	r = New(walled)
	checkEdge(t, r, a, b, stays)
	setGraph(t, r, cell, false, true)
	checkEdge(t, r, a, b, true)
	checkAnew(t, r, g)
}

// I3, B1, W2: each cell of a grid is set as it is, set otherwise, and set back: all is as it was, but for the version.
func TestSetAndSetBack(t *testing.T) {
	g := drawn(t,
		".......@",
		".@@@....",
		".@......",
		"....@...",
		"@......@",
		"..@.....",
	)
	r := New(g)
	first := told(r)
	for cell := range g.Cells() {
		isFree := isFree(g, cell)
		version := r.Grid().Version()
		setGraph(t, r, cell, !isFree, false)
		if v := r.Grid().Version(); v != version {
			t.Errorf("cell %d was so, and the version went from %d to %d", cell, version, v)
		}
		if !checkTold(t, r, first) {
			t.Fatalf("cell %d was so, and the graph changed", cell)
		}
		setGraph(t, r, cell, isFree, true)
		setGraph(t, r, cell, isFree, false)
		setGrid(t, g, cell, isFree)
		if !checkGraph(t, r, g) {
			t.Fatalf("after Set(%d, %v)", cell, isFree)
		}
		setGraph(t, r, cell, !isFree, true)
		setGrid(t, g, cell, !isFree)
		if v := r.Grid().Version(); v != version+2 {
			t.Errorf("version %d, want %d", v, version+2)
		}
		if !checkTold(t, r, first) {
			t.Fatalf("cell %d was set back, and the graph isn't as it was", cell)
		}
	}
}

// I1 to I3: all ways in which twelve cells may be blocked, one after the other, each by one cell that is set.
func TestAllOfTwelveCells(t *testing.T) {
	g := free(t, 4, 3)
	r := New(g)
	for i := 1; i < 1<<12; i++ {
		// The lowest bit of i tells which cell: so each set of walls comes just once.
		cell := 0
		for i>>cell&1 == 0 {
			cell++
		}
		setGraph(t, r, cell, isFree(g, cell), true)
		setGrid(t, g, cell, isFree(g, cell))
		if !checkGraph(t, r, g) {
			t.Fatalf("after %d sets, the last one of %d", i, cell)
		}
	}
}

// I1 to I3: drawn grids, and many cells set, held against the words.
func TestDrawn(t *testing.T) {
	d := die(91)
	for range 120 {
		g := plotOf(t, &d, 8)
		r := New(g)
		if !checkGraph(t, r, g) {
			return
		}
		for range 10 {
			setBoth(t, &d, r, g)
			if !checkGraph(t, r, g) {
				return
			}
		}
	}
}

// setBoth: a drawn cell is set in a graph, and in a grid.
func setBoth(t *testing.T, d *die, r *Graph, g *grid.Grid) {
	t.Helper()
	cell, blocked := d.n(g.Cells()), d.n(2) == 0
	did, err := g.Set(cell, blocked)
	if err != nil {
		t.Fatal(err)
	}
	setGraph(t, r, cell, blocked, did)
	if *r.Grid() != *g {
		t.Error("the graph's grid isn't the grid with what was set")
	}
}

// I3, W2: great grids, with few walls and with many: many cells set, and the graph held against one that is laid anew.
func TestSetDrawn(t *testing.T) {
	d := die(92)
	for walls := 1; walls < 200; walls += 1 + walls/8 {
		g := free(t, api.MaxSide-d.n(3), api.MaxSide-d.n(3))
		for range walls {
			_, _ = g.Set(d.n(g.Cells()), true)
		}
		r := New(g)
		for range 20 {
			setBoth(t, &d, r, g)
			if !checkAnew(t, r, g) {
				return
			}
		}
	}
}

// I3: each cell of the greatest grid is blocked, in a drawn order, and freed in another one.
func TestFillAndEmpty(t *testing.T) {
	d := die(93)
	g := free(t, api.MaxSide, api.MaxSide)
	r := New(g)
	for _, blocked := range []bool{true, false} {
		for i, cell := range shuffled(&d, g.Cells()) {
			setGrid(t, g, cell, blocked)
			setGraph(t, r, cell, blocked, true)
			if i%8 == 0 && !checkAnew(t, r, g) {
				return
			}
		}
		checkNodes(t, r)
		checkAnew(t, r, g)
	}
	if v := r.Grid().Version(); v != 2*api.MaxCells {
		t.Errorf("version %d, want %d", v, 2*api.MaxCells)
	}
}

// shuffled: the numbers below n, in a drawn order.
func shuffled(d *die, n int) []int {
	l := make([]int, n)
	for i := range l {
		l[i] = i
	}
	for i := range l {
		j := d.n(i + 1)
		l[i], l[j] = l[j], l[i]
	}
	return l
}

// I3: Grid is a copy of the grid as it is, its version too; changed, it changes nothing of the graph, nor of another copy.
func TestGridIsACopy(t *testing.T) {
	g := drawn(t, ".....", ".@@@.", ".@...", ".....")
	r := New(g)
	if *r.Grid() != *g {
		t.Error("Grid() isn't the grid")
	}
	before := told(r)
	one, other := r.Grid(), r.Grid()
	for _, cell := range []int{0, 2, 14} {
		setGrid(t, one, cell, true)
	}
	setGrid(t, one, 7, false)
	if *other != *g || *r.Grid() != *g {
		t.Error("a copy changed another one")
	}
	checkTold(t, r, before)
	setGraph(t, r, 0, false, false)
	setGraph(t, r, 10, true, true)
	setGrid(t, g, 10, true)
	if *r.Grid() != *g || isFree(r.Grid(), 10) || !isFree(other, 10) {
		t.Error("Grid() isn't the grid as it is now, or a copy went on with it")
	}
	checkGraph(t, r, g)
}

// I1: the graph is of the grid as it was when it was made, whatever is changed behind it; and it changes nothing of that.
func TestGridChangedBehind(t *testing.T) {
	g := drawn(t, ".....", ".@@@.", ".@...", ".....")
	then := g.Copy()
	r := New(g)
	for _, cell := range []int{0, 2, 14, 17} {
		setGrid(t, g, cell, true)
	}
	setGrid(t, g, 7, false)
	now := *g
	checkGraph(t, r, then)
	// What is set is set in the grid as it was: cell 0 is free there, and cell 7 is blocked.
	setGraph(t, r, 0, false, false)
	setGraph(t, r, 7, true, false)
	setGraph(t, r, 10, true, true)
	setGrid(t, then, 10, true)
	checkGraph(t, r, then)
	if *g != now {
		t.Error("the graph changed the grid that it was made of")
	}
	checkGraph(t, New(g), g)
}

// I3, Z2: two graphs of one grid go on apart.
func TestGraphsApart(t *testing.T) {
	g := drawn(t, ".....", ".@@@.", ".@...", ".....")
	one, other := New(g), New(g)
	setGraph(t, one, 10, true, true)
	setGraph(t, one, 8, false, true)
	checkGraph(t, other, g)
	setGrid(t, g, 10, true)
	setGrid(t, g, 8, false)
	checkGraph(t, one, g)
}

// Z2: each list is the caller's: written into, nothing of the graph changes; what was told stays when cells are set.
func TestListsAreTheCallers(t *testing.T) {
	r := New(drawn(t, ".....", ".@@@.", ".@...", "....."))
	before := told(r)
	nodes, edges, links := r.Nodes(), must(r.Edges(0)), must(r.Connect(0))
	for i := range nodes {
		nodes[i] = -7
	}
	_ = append(nodes[:1], -8)
	for _, l := range [][]api.Edge{edges, links} {
		for i := range l {
			l[i] = api.Edge{To: -7, C: api.Cost{S: -7, D: -7}, Mid: -7}
		}
		_ = append(l[:1], api.Edge{To: -8})
	}
	checkTold(t, r, before)
	nodes, edges, links = r.Nodes(), must(r.Edges(0)), must(r.Connect(0))
	then := fmt.Sprint(nodes, edges, links)
	setGraph(t, r, 2, true, true)
	setGraph(t, r, 10, true, true)
	if got := fmt.Sprint(nodes, edges, links); got != then {
		t.Errorf("what was told changed: %s, was %s", got, then)
	}
}

// must: the list alone; without one the tests that ask for it fail.
func must(l []api.Edge, err error) []api.Edge {
	if err != nil {
		return nil
	}
	return l
}

// W4, Z2: asks change nothing, and may come all at once.
func TestAsksChangeNothing(t *testing.T) {
	d := die(94)
	g := free(t, api.MaxSide, api.MaxSide)
	for range 40 {
		_, _ = g.Set(d.n(g.Cells()), true)
	}
	r := New(g)
	if len(r.Nodes()) < 20 {
		t.Fatal("the grid has too few corners for this")
	}
	before := told(r)
	var all sync.WaitGroup
	for range 4 {
		all.Go(func() { checkTold(t, r, before) })
	}
	all.Wait()
	if *r.Grid() != *g {
		t.Error("asks changed the grid")
	}
	checkTold(t, r, before)
}

// W3: corners are enough: by an edge of Connect, over edges, and by an edge of Connect again it is as far as over cells, unless both are directly near.
func TestCornersAreEnough(t *testing.T) {
	d := die(95)
	for range 40 {
		g := plotOf(t, &d, 12)
		r := New(g)
		for range 6 {
			setBoth(t, &d, r, g)
		}
		a := d.n(g.Cells())
		if !isFree(g, a) {
			continue
		}
		far, err := flood.From(g, a)
		if err != nil {
			t.Fatal(err)
		}
		over := overEdges(t, r, a)
		for b := range g.Cells() {
			direct, _ := reach.Direct(g, a, b)
			want, err := far.Cost(b)
			if direct || !isFree(g, b) {
				continue
			}
			if got, ok := least(over, must(r.Connect(b))); ok != (err == nil) || got != want {
				t.Errorf("from %d to %d: over corners %v, %v, over cells %v, %v", a, b, got, ok, want, err)
			}
		}
	}
}

// overEdges: how far it is from a cell to each corner, by going over edges again and again.
func overEdges(t *testing.T, r *Graph, a int) map[int]api.Cost {
	t.Helper()
	over := map[int]api.Cost{}
	for _, e := range must(r.Connect(a)) {
		over[e.To] = e.C
	}
	for changed := true; changed; {
		changed = false
		for _, n := range r.Nodes() {
			c, ok := least(over, must(r.Edges(n)))
			if old, there := over[n]; ok && (!there || cost.Less(c, old)) {
				over[n], changed = c, true
			}
		}
	}
	return over
}

// least of what corners cost, each with the edge to it; false: none can be come to.
func least(over map[int]api.Cost, edges []api.Edge) (api.Cost, bool) {
	var best api.Cost
	found := false
	for _, e := range edges {
		if c, there := over[e.To]; there && (!found || cost.Less(cost.Add(c, e.C), best)) {
			best, found = cost.Add(c, e.C), true
		}
	}
	return best, found
}

// W5: a turned or mirrored grid has its corners and edges turned and mirrored.
func TestTurnedAndMirrored(t *testing.T) {
	d := die(96)
	for range 20 {
		g := plotOf(t, &d, 9)
		w, h := g.Size()
		turn := func(cell int) int { return cell%w*h + h - 1 - cell/w }
		mirror := func(cell int) int { return cell/w*w + w - 1 - cell%w }
		turned, mirrored := free(t, h, w), free(t, w, h)
		for cell := range g.Cells() {
			if !isFree(g, cell) {
				setGrid(t, turned, turn(cell), true)
				setGrid(t, mirrored, mirror(cell), true)
			}
		}
		checkMoved(t, New(g), New(turned), turn)
		checkMoved(t, New(g), New(mirrored), mirror)
	}
}

// checkMoved: in another graph, whose cells lie elsewhere, there are the same edges.
func checkMoved(t *testing.T, r, other *Graph, move func(int) int) {
	t.Helper()
	if len(r.Nodes()) != len(other.Nodes()) {
		t.Errorf("%v are moved to %v", r.Nodes(), other.Nodes())
	}
	for _, n := range r.Nodes() {
		edges := must(r.Edges(n))
		for i := range edges {
			edges[i].To = move(edges[i].To)
		}
		slices.SortFunc(edges, func(a, b api.Edge) int { return a.To - b.To })
		checkEdges(t, other, move(n), edges...)
	}
}
