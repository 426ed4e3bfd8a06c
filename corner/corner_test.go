package corner

import (
	"math"
	"slices"
	"strings"
	"sync"
	"testing"

	"fellrunner/api"
	"fellrunner/grid"
)

// die: numbers that look drawn, the same each time.
type die uint64

func (d *die) n(most int) int {
	*d = *d*6364136223846793005 + 1442695040888963407
	return int(uint64(*d>>33) % uint64(most))
}

// wild: numbers that are no cell of any grid.
var wild = []int{math.MinInt, math.MinInt + 1, -api.MaxCells, -17, -1, api.MaxCells, api.MaxCells + 1, math.MaxInt - 1, math.MaxInt}

// drawn: the grid of rows in which '@' is blocked.
func drawn(t *testing.T, rows ...string) *grid.Grid {
	t.Helper()
	g := free(t, len(rows[0]), len(rows))
	for cell, b := range []byte(strings.Join(rows, "")) {
		if b == '@' {
			set(t, g, cell, true)
		}
	}
	return g
}

// free: a grid without walls.
func free(t *testing.T, w, h int) *grid.Grid {
	t.Helper()
	g, err := grid.New(w, h)
	if err != nil {
		t.Fatal(err)
	}
	return g
}

func set(t *testing.T, g *grid.Grid, cell int, blocked bool) {
	t.Helper()
	if did, err := g.Set(cell, blocked); !did || err != nil {
		t.Fatalf("Set(%d, %v) = %v, %v", cell, blocked, did, err)
	}
}

// plotOf: a drawn grid with walls, few or many.
func plotOf(t *testing.T, d *die, most int) *grid.Grid {
	t.Helper()
	g := free(t, d.n(most)+1, d.n(most)+1)
	thin := d.n(9) + 2
	for cell := range g.Cells() {
		if d.n(thin) == 0 {
			set(t, g, cell, true)
		}
	}
	return g
}

// judge: the corners, found from the walls: wherever of four cells that touch just one is blocked, the one across from it is a corner.
func judge(g *grid.Grid) []int {
	w, h := g.Size()
	found := make([]bool, w*h)
	for y := range h - 1 {
		for x := range w - 1 {
			four := [4]int{y*w + x, y*w + x + 1, (y+1)*w + x, (y+1)*w + x + 1}
			walls, wall := 0, 0
			for i, cell := range four {
				if isFree, _ := g.Free(cell); !isFree {
					walls, wall = walls+1, i
				}
			}
			if walls == 1 {
				found[four[3-wall]] = true
			}
		}
	}
	var all []int
	for cell, is := range found {
		if is {
			all = append(all, cell)
		}
	}
	return all
}

// checkAll: these are the corners, and Is tells it of each cell.
func checkAll(t *testing.T, g *grid.Grid, want ...int) bool {
	t.Helper()
	good := true
	if got := All(g); !slices.Equal(got, want) {
		t.Errorf("All() = %v, want %v", got, want)
		good = false
	}
	for cell := range g.Cells() {
		if is, err := Is(g, cell); is != slices.Contains(want, cell) || err != nil {
			t.Errorf("Is(%d) = %v, %v, want %v", cell, is, err, !is)
			good = false
		}
	}
	return good
}

// G1: on the document's map, by hand.
func TestCornersByHand(t *testing.T) {
	g := drawn(t, ".....", ".@@@.", ".@...", ".....")
	checkAll(t, g, 0, 4, 14, 15, 17)
	if !slices.Equal(judge(g), []int{0, 4, 14, 15, 17}) {
		t.Errorf("the judge is wrong: %v", judge(g))
	}
	set(t, g, 13, true)
	set(t, g, 18, true)
	checkAll(t, g, 0, 4, 15, 17)
	set(t, g, 9, true)
	checkAll(t, g, 0, 15, 17)
}

// G1: a cell that is a corner in one diagonal direction: the wall is there, and nothing else is.
func TestCornerInOneDirection(t *testing.T) {
	checkAll(t, drawn(t, "@..", "...", "..."), 4)
	checkAll(t, drawn(t, "..@", "...", "..."), 4)
	checkAll(t, drawn(t, "...", "...", "@.."), 4)
	checkAll(t, drawn(t, "...", "...", "..@"), 4)
	checkAll(t, drawn(t, "...", ".@.", "..."), 0, 2, 6, 8)
}

// G1: a cell that is one in several directions, in all, or in one while in others a cell between is blocked.
func TestCornerInSeveralDirections(t *testing.T) {
	checkAll(t, drawn(t, "@.@", "...", "..."), 4)
	checkAll(t, drawn(t, "@..", "...", "..@"), 4)
	checkAll(t, drawn(t, "..@", "...", "@.@"), 4)
	checkAll(t, drawn(t, "@.@", "...", "@.@"), 4)
	checkAll(t, drawn(t, "@@@", "@..", "@.@"), 4)
}

// G1: where one of both between is blocked, or both, it is no corner for that wall.
func TestNoCornerBehindAWall(t *testing.T) {
	checkAll(t, drawn(t, "@@", ".."))
	checkAll(t, drawn(t, "@.", "@."))
	checkAll(t, drawn(t, "@@", "@."))
	checkAll(t, drawn(t, ".@", "@."))
	checkAll(t, drawn(t, "..", "@@"))
	checkAll(t, drawn(t, "@.", ".."), 3)
	checkAll(t, drawn(t, ".@", ".."), 2)
	checkAll(t, drawn(t, "..", "@."), 1)
	checkAll(t, drawn(t, "..", ".@"), 0)
}

// G1: a wall beside a cell in a straight direction makes no corner of it, nor does a free cell in a diagonal one.
func TestNoCornerBesideAWall(t *testing.T) {
	checkAll(t, drawn(t, "...", "@..", "..."), 1, 7)
	checkAll(t, drawn(t, "@@@", "...", "@@@"))
	checkAll(t, drawn(t, "@.@", "@.@", "@.@"))
	checkAll(t, drawn(t, "@.@", "@..", "@@@"), 4)
}

// G1: beyond the border there is no cell, but the border makes no corners: neither of those at it, nor in the grid's own corners.
func TestBorder(t *testing.T) {
	for w := 1; w <= api.MaxSide; w++ {
		for h := 1; h <= api.MaxSide; h++ {
			checkAll(t, free(t, w, h))
		}
	}
	// A wall at the border has no cell diagonally beside it on that side.
	checkAll(t, drawn(t, "..@..", ".....", "....."), 6, 8)
	checkAll(t, drawn(t, "...", "...", "@..", "...", "..."), 4, 10)
	checkAll(t, drawn(t, "@...", "....", "...."), 5)
	checkAll(t, drawn(t, "....", "....", "...@"), 6)
}

// G1: rows and columns don't run into each other at the border.
func TestBorderIsNoNeighbour(t *testing.T) {
	checkAll(t, drawn(t, "....", "...@", "....", "...."), 2, 10)
	checkAll(t, drawn(t, "....", "....", "@...", "...."), 5, 13)
}

// G1: a blocked cell is none, whatever lies round it.
func TestBlockedCell(t *testing.T) {
	for _, g := range []*grid.Grid{drawn(t, "@.@", ".@.", "@.@"), drawn(t, "@@@", "@@@", "@@@"), drawn(t, "@.", ".@")} {
		checkAll(t, g)
	}
	g := drawn(t, "@..", "...", "...")
	checkAll(t, g, 4)
	set(t, g, 4, true)
	checkAll(t, g, 2, 6, 8)
}

// G1: the least grid, and those of one row or one column, which have no diagonals.
func TestNarrowGrids(t *testing.T) {
	checkAll(t, drawn(t, "."))
	checkAll(t, drawn(t, "@"))
	checkAll(t, drawn(t, "..@.@...@"))
	checkAll(t, drawn(t, ".", ".", "@", ".", "@"))
}

// G1: the greatest grid: with walls at each second place of each second row, every cell between walls is a corner.
func TestGreatestGrid(t *testing.T) {
	const side = api.MaxSide
	g := free(t, side, side)
	var want []int
	for cell := range api.MaxCells {
		if x, y := cell%side, cell/side; x%2 == 1 && y%2 == 1 {
			set(t, g, cell, true)
		} else if x%2 == 0 && y%2 == 0 {
			want = append(want, cell)
		}
	}
	checkAll(t, g, want...)
	for cell := range api.MaxCells {
		if isFree, _ := g.Free(cell); isFree {
			set(t, g, cell, true)
		}
	}
	checkAll(t, g)
}

// G1: all ways in which the nine cells of a grid may be blocked.
func TestAllRoundACell(t *testing.T) {
	for walls := range 1 << 9 {
		g := free(t, 3, 3)
		for cell := range 9 {
			if walls>>cell&1 == 1 {
				set(t, g, cell, true)
			}
		}
		if !checkAll(t, g, judge(g)...) {
			t.Fatalf("walls %b", walls)
		}
	}
}

// G1, W2: drawn grids, cells of which are blocked and freed: the corners are always those of the grid as it is.
func TestDrawn(t *testing.T) {
	d := die(71)
	for range 100 {
		g := plotOf(t, &d, api.MaxSide)
		checkAll(t, g, judge(g)...)
		for range 20 {
			if _, err := g.Set(d.n(g.Cells()), d.n(2) == 0); err != nil {
				t.Fatal(err)
			}
			if !checkAll(t, g, judge(g)...) {
				return
			}
		}
	}
}

// W5: a turned or mirrored grid has its corners turned and mirrored.
func TestTurnedAndMirrored(t *testing.T) {
	d := die(72)
	for range 60 {
		g := plotOf(t, &d, 9)
		w, h := g.Size()
		turn := func(cell int) int { return cell%w*h + h - 1 - cell/w }
		mirror := func(cell int) int { return cell/w*w + w - 1 - cell%w }
		turned, mirrored := free(t, h, w), free(t, w, h)
		for cell := range g.Cells() {
			if isFree, _ := g.Free(cell); !isFree {
				set(t, turned, turn(cell), true)
				set(t, mirrored, mirror(cell), true)
			}
		}
		var byTurn, byMirror []int
		for _, cell := range All(g) {
			byTurn, byMirror = append(byTurn, turn(cell)), append(byMirror, mirror(cell))
		}
		slices.Sort(byTurn)
		slices.Sort(byMirror)
		checkAll(t, turned, byTurn...)
		checkAll(t, mirrored, byMirror...)
	}
}

// G1, Z1, Z3: what is no cell is out of bounds, on any grid.
func TestNoCell(t *testing.T) {
	for _, g := range []*grid.Grid{drawn(t, "."), drawn(t, "@"), drawn(t, "@..", "..."), free(t, 16, 1), free(t, api.MaxSide, api.MaxSide)} {
		before := *g
		for _, cell := range append([]int{g.Cells(), g.Cells() + 1}, wild...) {
			if is, err := Is(g, cell); is || err != error(api.ErrBound) {
				t.Errorf("Is(%d) = %v, %v, want ErrBound", cell, is, err)
			}
		}
		if *g != before {
			t.Error("asks changed the grid")
		}
	}
}

// W4, Z2: asks change nothing, may come all at once, and each list is the caller's.
func TestAsksChangeNothing(t *testing.T) {
	d := die(73)
	g := plotOf(t, &d, api.MaxSide)
	before, want := *g, judge(g)
	if len(want) < 2 {
		t.Fatal("the grid has too few corners for this")
	}
	one, other := All(g), All(g)
	for i := range one {
		one[i] = -1
	}
	_ = append(one[:1], -2)
	if !slices.Equal(other, want) {
		t.Errorf("two lists share memory: %v", other)
	}
	var all sync.WaitGroup
	for range 4 {
		all.Go(func() { checkAll(t, g, want...) })
	}
	all.Wait()
	if *g != before {
		t.Error("asks changed the grid")
	}
}
