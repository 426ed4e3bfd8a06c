package flood

import (
	"math"
	"slices"
	"testing"

	"fellrunner/api"
)

// E3: straight steps and diagonal ones, there and back, in every direction.
func TestWalk(t *testing.T) {
	g := drawn(t, ".....", ".@@@.", ".@...", ".....")
	checkWalk(t, g, c(5, 1), 10, 15, 16, 17, 13, 14, 9)
	checkWalk(t, g, c(5, 1), 9, 14, 13, 17, 16, 15, 10)
	checkWalk(t, g, c(4, 0), 5, 0, 1, 2, 3)
	checkWalk(t, g, c(3, 0), 0, 1, 0, 1)
	checkWalk(t, g, c(0, 2), 17, 13, 17)
	free := drawn(t, "...", "...", "...")
	for i, to := range []int{1, 2, 5, 8, 7, 6, 3, 0} {
		checkWalk(t, free, c(1-i%2, i%2), 4, to)
		checkWalk(t, free, c(1-i%2, i%2), to, 4)
		checkWalk(t, free, c(2*(1-i%2), 2*(i%2)), 4, to, 4)
	}
	checkWalk(t, free, c(8, 0), 0, 1, 2, 5, 8, 7, 6, 3, 0)
	checkWalk(t, free, c(0, 4), 1, 5, 7, 3, 1)
}

// E3: a way need not be short, nor end anywhere.
func TestWalkLong(t *testing.T) {
	g := drawn(t, "..", "..")
	way := slices.Repeat([]int{0, 3, 1, 0}, 50000)
	// Each round: 0 to 3, 3 to 1, 1 to 0; to begin one anew would be to stay on the spot.
	checkNoWalk(t, g, api.ErrShape, way...)
	way = slices.Repeat([]int{0, 3, 1}, 50000)
	checkWalk(t, g, c(2*50000-1, 50000), way...)
}

// E3: a way with no cell is none; one with one cell costs nothing.
func TestWalkShort(t *testing.T) {
	g := drawn(t, "..@", "@..")
	checkNoWalk(t, g, api.ErrShape)
	if got, err := Walk(g, nil); got != c(0, 0) || err != error(api.ErrShape) {
		t.Errorf("Walk(nil) = %v, %v, want ErrShape", got, err)
	}
	for _, cell := range []int{0, 1, 4, 5} {
		checkWalk(t, g, c(0, 0), cell)
	}
	for _, cell := range []int{2, 3} {
		checkNoWalk(t, g, api.ErrBlocked, cell)
	}
	for _, cell := range append([]int{6, 7}, wild...) {
		checkNoWalk(t, g, api.ErrBound, cell)
	}
	checkNoWalk(t, drawn(t, "@"), api.ErrShape)
	checkNoWalk(t, drawn(t, "@"), api.ErrBlocked, 0)
	checkWalk(t, drawn(t, "."), c(0, 0), 0)
	checkNoWalk(t, drawn(t, "."), api.ErrShape, 0, 0)
}

// E3: nobody goes on the spot, over two cells, through a wall, or round a corner that is cut.
func TestWalkWrongSteps(t *testing.T) {
	g := drawn(t, "....", "....", "..@.", "....")
	checkNoWalk(t, g, api.ErrShape, 0, 0)
	checkNoWalk(t, g, api.ErrShape, 0, 1, 1)
	checkNoWalk(t, g, api.ErrShape, 0, 1, 1, 2)
	checkNoWalk(t, g, api.ErrShape, 0, 2)
	checkNoWalk(t, g, api.ErrShape, 0, 8)
	checkNoWalk(t, g, api.ErrShape, 0, 6)
	checkNoWalk(t, g, api.ErrShape, 0, 15)
	checkNoWalk(t, g, api.ErrShape, 9, 11)
	checkNoWalk(t, g, api.ErrShape, 6, 14)
	checkNoWalk(t, g, api.ErrBlocked, 9, 10, 11)
	for _, pair := range [][2]int{{6, 9}, {6, 11}, {9, 14}, {11, 14}} {
		checkNoWalk(t, g, api.ErrShape, pair[0], pair[1])
		checkNoWalk(t, g, api.ErrShape, pair[1], pair[0])
	}
	both := drawn(t, ".@", "@.")
	checkNoWalk(t, both, api.ErrShape, 0, 3)
	checkNoWalk(t, both, api.ErrShape, 3, 0)
}

// E3: nobody leaves the grid: over a border the next number lies elsewhere, or there is none.
func TestWalkOverTheBorder(t *testing.T) {
	g := drawn(t, "....", "....", "....")
	checkNoWalk(t, g, api.ErrShape, 3, 4)
	checkNoWalk(t, g, api.ErrShape, 4, 3)
	checkNoWalk(t, g, api.ErrShape, 7, 8)
	checkNoWalk(t, g, api.ErrShape, 4, 7)
	checkNoWalk(t, g, api.ErrShape, 0, 7)
	checkNoWalk(t, g, api.ErrShape, 3, 8)
	checkNoWalk(t, g, api.ErrShape, 8, 3)
	checkNoWalk(t, g, api.ErrShape, 0, 3)
	checkNoWalk(t, g, api.ErrBound, 0, -1)
	checkNoWalk(t, g, api.ErrBound, 0, -4)
	checkNoWalk(t, g, api.ErrBound, 11, 12)
	checkNoWalk(t, g, api.ErrBound, 8, 12)
	checkNoWalk(t, g, api.ErrBound, 1, 2, 3, 7, 11, 15)
	column := drawn(t, ".", ".", ".")
	checkWalk(t, column, c(2, 0), 0, 1, 2)
	checkNoWalk(t, column, api.ErrShape, 0, 2)
	row := drawn(t, "...")
	checkWalk(t, row, c(2, 0), 2, 1, 0)
	checkNoWalk(t, row, api.ErrShape, 2, 0)
}

// E3, Z3: of each cell in order: that it is none, that it is blocked, that one may not go to it; of several cells the first one's.
func TestWalkWhichError(t *testing.T) {
	g := drawn(t, "....", "..@.", "....")
	checkNoWalk(t, g, api.ErrBlocked, 0, 6)
	checkNoWalk(t, g, api.ErrBound, 0, 99)
	checkNoWalk(t, g, api.ErrBlocked, 6, 6)
	checkNoWalk(t, g, api.ErrBound, -1, -1)
	checkNoWalk(t, g, api.ErrShape, 0, 2, 99)
	checkNoWalk(t, g, api.ErrShape, 0, 2, 6)
	checkNoWalk(t, g, api.ErrShape, 0, 0, -1)
	checkNoWalk(t, g, api.ErrBlocked, 6, -1)
	checkNoWalk(t, g, api.ErrBlocked, 0, 1, 6, 99)
	checkNoWalk(t, g, api.ErrBlocked, 5, 6, 8)
	checkNoWalk(t, g, api.ErrBound, -1, 6)
	checkNoWalk(t, g, api.ErrBound, 12, 0, 2)
	checkNoWalk(t, g, api.ErrBound, 0, 1, 12, 6)
	checkNoWalk(t, g, api.ErrBound, 0, math.MaxInt, 2)
}

// E3: it is walked over the grid as it is now.
func TestWalkAfterChanges(t *testing.T) {
	g := drawn(t, "...", "...")
	checkWalk(t, g, c(1, 1), 0, 4, 5)
	block(t, g, 1)
	checkNoWalk(t, g, api.ErrShape, 0, 4, 5)
	checkWalk(t, g, c(3, 0), 0, 3, 4, 5)
	block(t, g, 4)
	checkNoWalk(t, g, api.ErrBlocked, 0, 4, 5)
	g.Set(4, false)
	g.Set(1, false)
	checkWalk(t, g, c(1, 1), 0, 4, 5)
}

// Z2: a list that is handed in isn't written into, nor read behind its end; nor is the grid changed.
func TestWalkLeavesItsList(t *testing.T) {
	g := drawn(t, "...", ".@.")
	before := *g
	whole := []int{0, 1, 2, 5, 4, 99, -1}
	kept := slices.Clone(whole)
	checkNoWalk(t, g, api.ErrShape, whole[:0]...)
	checkWalk(t, g, c(3, 0), whole[:4]...)
	checkNoWalk(t, g, api.ErrBlocked, whole[:5]...)
	checkNoWalk(t, g, api.ErrBlocked, whole...)
	checkNoWalk(t, g, api.ErrBound, whole[5:]...)
	checkWalk(t, g, c(2, 0), whole[1:4]...)
	if !slices.Equal(whole, kept) {
		t.Errorf("Walk made %v of %v", whole, kept)
	}
	if *g != before {
		t.Error("Walk changed the grid")
	}
}

// E3: drawn ways, good ones and such with a fault, held against a plain reading of E3.
func TestWalkDrawn(t *testing.T) {
	d := die(25)
	for range 4000 {
		g := plotOf(t, &d, 6)
		cell := d.n(g.Cells()+2) - 1
		var way []int
		for range d.n(8) {
			way = append(way, cell)
			w, _ := g.Size()
			l := beside(g, cell)
			switch {
			case d.n(12) == 0:
				cell = d.n(g.Cells()+2) - 1
			case d.n(12) == 0 || len(l) == 0:
				cell += []int{0, 1, -1, w, -w, w + 1, w - 1, 1 - w, -1 - w}[d.n(9)]
			default:
				cell = l[d.n(len(l))].cell
			}
		}
		want, wantErr := walk(g, way)
		if got, err := Walk(g, way); got != want || err != wantErr {
			t.Errorf("Walk(%v) = %v, %v, want %v, %v", way, got, err, want, wantErr)
		}
	}
}

// E3: every pair of cells of drawn grids: a step, or none.
func TestWalkEveryPair(t *testing.T) {
	d := die(26)
	for range 30 {
		g := plotOf(t, &d, 7)
		for a := -1; a <= g.Cells(); a++ {
			for b := -1; b <= g.Cells(); b++ {
				way := []int{a, b}
				want, wantErr := walk(g, way)
				if got, err := Walk(g, way); got != want || err != wantErr {
					t.Errorf("Walk(%v) = %v, %v, want %v, %v", way, got, err, want, wantErr)
				}
			}
		}
	}
}

// Z1: no numbers make a call fall over.
func TestNothingPanics(t *testing.T) {
	g := drawn(t, "..", ".@")
	f := from(t, g, 0)
	numbers := append([]int{0, 1, 2, 3, 4, 5}, wild...)
	for _, a := range numbers {
		_, _ = From(g, a)
		_, _ = f.Cost(a)
		_, _ = f.Way(a)
		for _, b := range numbers {
			_, _ = Walk(g, []int{a, b})
			_, _ = Walk(g, []int{0, a, b})
			_, _ = Walk(g, []int{b, 1, a})
		}
	}
}
