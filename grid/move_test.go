package grid

import (
	"math"
	"slices"
	"testing"

	"fellrunner/api"
)

func checkMovesFrom(t *testing.T, g *Grid, cell int, want ...int) {
	t.Helper()
	if l, err := g.Moves(cell); !slices.Equal(l, want) || err != nil {
		t.Errorf("Moves(%d) = %v, %v, want %v", cell, l, err, want)
	}
	x, y, _ := g.Place(cell)
	for dir := range api.Dirs {
		if g.May(x, y, dir) != slices.Contains(want, dir) {
			t.Errorf("May(%d, %d, %d) = %v", x, y, dir, g.May(x, y, dir))
		}
	}
}

// B2: directions go as a clock goes, from up on.
func TestStep(t *testing.T) {
	want := [][2]int{{0, -1}, {1, -1}, {1, 0}, {1, 1}, {0, 1}, {-1, 1}, {-1, 0}, {-1, -1}}
	for dir, step := range want {
		if x, y := Step(dir); x != step[0] || y != step[1] {
			t.Errorf("Step(%d) = %d, %d, want %v", dir, x, y, step)
		}
	}
}

// B2: on a free grid borders alone are in the way.
func TestMovesAtBorders(t *testing.T) {
	g := sized(t, 3, 3)
	want := [][]int{
		{2, 3, 4}, {2, 3, 4, 5, 6}, {4, 5, 6},
		{0, 1, 2, 3, 4}, {0, 1, 2, 3, 4, 5, 6, 7}, {0, 4, 5, 6, 7},
		{0, 1, 2}, {0, 1, 2, 6, 7}, {0, 6, 7},
	}
	for cell, l := range want {
		checkMovesFrom(t, g, cell, l...)
	}
	checkMovesFrom(t, sized(t, 1, 1), 0)
	row := sized(t, 3, 1)
	checkMovesFrom(t, row, 0, 2)
	checkMovesFrom(t, row, 1, 2, 6)
	checkMovesFrom(t, row, 2, 6)
	column := sized(t, 1, 3)
	checkMovesFrom(t, column, 0, 4)
	checkMovesFrom(t, column, 1, 0, 4)
	checkMovesFrom(t, column, 2, 0)
}

// B2: from the last column one doesn't come into the next row.
func TestMovesStayInTheirRow(t *testing.T) {
	g := sized(t, api.MaxSide, api.MaxSide)
	checkMovesFrom(t, g, api.MaxSide-1, 4, 5, 6)
	checkMovesFrom(t, g, api.MaxSide, 0, 1, 2, 3, 4)
	checkMovesFrom(t, g, api.MaxCells-1, 0, 6, 7)
}

// B2: no corner is cut: each cell beside the middle takes its own direction and the diagonal ones it touches.
func TestMovesBesideABlockedCell(t *testing.T) {
	lost := [][]int{{7}, {7, 0, 1}, {1}, {5, 6, 7}, nil, {1, 2, 3}, {5}, {3, 4, 5}, {3}}
	for cell, gone := range lost {
		if cell == 4 {
			continue
		}
		g := sized(t, 3, 3)
		set(t, g, cell, true, true)
		var want []int
		for dir := range api.Dirs {
			if !slices.Contains(gone, dir) {
				want = append(want, dir)
			}
		}
		checkMovesFrom(t, g, 4, want...)
	}
}

// B2: both places beside a diagonal step must be open, one is not enough.
func TestDiagonalNeedsBothBeside(t *testing.T) {
	both := drawn(t, "..", "..")
	checkMovesFrom(t, both, 0, 2, 3, 4)
	right := drawn(t, ".@", "..")
	checkMovesFrom(t, right, 0, 4)
	checkMovesFrom(t, right, 3, 6)
	below := drawn(t, "..", "@.")
	checkMovesFrom(t, below, 0, 2)
	checkMovesFrom(t, below, 3, 0)
	neither := drawn(t, ".@", "@.")
	checkMovesFrom(t, neither, 0)
	checkMovesFrom(t, neither, 3)
	end := drawn(t, "..", ".@")
	checkMovesFrom(t, end, 0, 2, 4)
}

// B2: one may not go from a blocked cell, be all around it free.
func TestMovesFromABlockedCell(t *testing.T) {
	g := drawn(t, "...", ".@.", "...")
	checkMovesFrom(t, g, 4)
	set(t, g, 4, false, true)
	checkMovesFrom(t, g, 4, 0, 1, 2, 3, 4, 5, 6, 7)
}

// B2: what one may go one may go back, by the direction across.
func TestMovesGoBack(t *testing.T) {
	d := die(4)
	for range 40 {
		w, h := d.n(api.MaxSide)+1, d.n(api.MaxSide)+1
		g := sized(t, w, h)
		for range w * h / 3 {
			g.Set(d.n(w*h), true)
		}
		for cell := range w * h {
			moves, err := g.Moves(cell)
			if err != nil {
				t.Fatal(err)
			}
			for _, dir := range moves {
				back, _ := g.Moves(g.To(cell, dir))
				across := (dir + 4) % api.Dirs
				if !slices.Contains(back, across) || g.To(g.To(cell, dir), across) != cell {
					t.Errorf("%d, %d: from %d by %d there is no way back", w, h, cell, dir)
				}
			}
		}
	}
}

// B2: places from which nobody goes anywhere, as they are no cells.
func TestMayBeyondTheBorder(t *testing.T) {
	g := sized(t, 4, 4)
	far := []int{math.MinInt, -2, -1, 4, 5, math.MaxInt}
	for dir := range api.Dirs {
		for _, n := range far {
			for _, m := range append([]int{0, 3}, far...) {
				if g.May(n, m, dir) || g.May(m, n, dir) {
					t.Errorf("one may go from %d, %d or %d, %d by %d", n, m, m, n, dir)
				}
			}
		}
	}
}

// B2: the cell beside one, in each direction.
func TestTo(t *testing.T) {
	g := sized(t, 5, 4)
	want := []int{7, 8, 13, 18, 17, 16, 11, 6}
	for dir, cell := range want {
		if got := g.To(12, dir); got != cell {
			t.Errorf("To(12, %d) = %d, want %d", dir, got, cell)
		}
	}
	set(t, g, 7, true, true)
	if got := g.To(12, 0); got != 7 {
		t.Errorf("To a blocked cell: %d, want 7", got)
	}
}

// Z2: the list of moves is the caller's, and asking changes nothing.
func TestMovesAreFresh(t *testing.T) {
	g := drawn(t, "...", "..@", "...")
	before := *g
	first, _ := g.Moves(4)
	second, _ := g.Moves(4)
	for i := range first {
		first[i] = 99
	}
	first = append(first, 98)
	checkMovesFrom(t, g, 4, 0, 4, 5, 6, 7)
	if !slices.Equal(second, []int{0, 4, 5, 6, 7}) || len(first) != 6 {
		t.Errorf("two lists share memory: %v", second)
	}
	if *g != before {
		t.Error("an ask changed the grid")
	}
}

// Z1: nothing is told of such cells and directions, but no call may fall over them.
func TestNothingPanics(t *testing.T) {
	g := sized(t, 5, 4)
	for _, a := range append([]int{0, 19, 20}, wild...) {
		for _, dir := range append([]int{8, 9}, wild...) {
			Step(dir)
			g.To(a, dir)
			g.May(a, 0, dir)
			g.May(0, a, dir)
		}
		for dir := range api.Dirs {
			g.To(a, dir)
		}
	}
}
