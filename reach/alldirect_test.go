package reach

import (
	"slices"
	"testing"

	"fellrunner/api"
	"fellrunner/grid"
)

// checkAround: just these cells are directly near one.
func checkAround(t *testing.T, g *grid.Grid, a int, want ...int) bool {
	t.Helper()
	got, err := AllDirect(g, a)
	if !slices.Equal(got, want) || err != nil {
		t.Errorf("AllDirect(%d) = %v, %v, want %v", a, got, err, want)
		return false
	}
	return true
}

// judgeAround: each cell is asked for alone.
func judgeAround(g *grid.Grid, a int) []int {
	var all []int
	for b := range g.Cells() {
		if direct, err := Direct(g, a, b); direct && err == nil {
			all = append(all, b)
		}
	}
	return all
}

// checkAllAround: of each free cell of a grid, against asking for each alone.
func checkAllAround(t *testing.T, g *grid.Grid) bool {
	t.Helper()
	for a := range g.Cells() {
		if isFree(g, a) && !checkAround(t, g, a, judgeAround(g, a)...) {
			return false
		}
	}
	return true
}

// H2: by hand: itself is among them; walls cut off, and what is behind a corner on any way is left out.
func TestAllDirectByHand(t *testing.T) {
	checkAround(t, drawn(t, "."), 0, 0)
	checkAround(t, drawn(t, "@@@", "@.@", "@@@"), 4, 4)
	checkAround(t, drawn(t, "...", "...", "..."), 0, 0, 1, 2, 3, 4, 5, 6, 7, 8)
	checkAround(t, drawn(t, "..@.."), 0, 0, 1)
	g := drawn(t, ".....", ".@@@.", ".@...", ".....")
	checkAround(t, g, 0, 0, 1, 2, 3, 4, 5, 10, 15)
	checkAround(t, g, 10, 0, 5, 10, 15)
	checkAround(t, g, 13, 12, 13, 14, 17, 18, 19)
	checkAround(t, g, 14, 4, 9, 12, 13, 14, 17, 18, 19)
	// 8 is a corner: 9 is behind it on all ways, 14 on some.
	checkAround(t, drawn(t, "....@", ".....", "....."), 0, 0, 1, 2, 3, 5, 6, 7, 8, 10, 11, 12, 13)
}

// H2: all ways in which the nine cells of a grid may be blocked.
func TestAllDirectOfNineCells(t *testing.T) {
	for walls := range 1 << 9 {
		g := free(t, 3, 3)
		for cell := range 9 {
			if walls>>cell&1 == 1 {
				set(t, g, cell, true)
			}
		}
		if !checkAllAround(t, g) {
			t.Fatalf("walls %b", walls)
		}
	}
}

// H2: drawn grids, and some cells of the greatest ones.
func TestAllDirectDrawn(t *testing.T) {
	d := die(85)
	for range 60 {
		if !checkAllAround(t, plotOf(t, &d, 8)) {
			return
		}
	}
	for range 40 {
		g := plotOf(t, &d, api.MaxSide)
		if a := d.n(g.Cells()); isFree(g, a) {
			checkAround(t, g, a, judgeAround(g, a)...)
		}
	}
}

// H1, Z1, Z3: what is no cell, or not free.
func TestAllDirectWrongCells(t *testing.T) {
	g := drawn(t, "..@", "@..")
	before := *g
	for _, none := range append([]int{6, 7}, wild...) {
		if all, err := AllDirect(g, none); len(all) != 0 || err != error(api.ErrBound) {
			t.Errorf("AllDirect(%d) = %v, %v, want ErrBound", none, all, err)
		}
	}
	for _, wall := range []int{2, 3} {
		if all, err := AllDirect(g, wall); len(all) != 0 || err != error(api.ErrBlocked) {
			t.Errorf("AllDirect(%d) = %v, %v, want ErrBlocked", wall, all, err)
		}
	}
	if *g != before {
		t.Error("errors changed the grid")
	}
}

// W4, Z2: an ask changes nothing, and its list is the caller's.
func TestAllDirectChangesNothing(t *testing.T) {
	g := drawn(t, ".....", ".@@@.", ".@...", ".....")
	before := *g
	one, _ := AllDirect(g, 10)
	for i := range one {
		one[i] = -1
	}
	_ = append(one[:1], -2)
	checkAround(t, g, 10, 0, 5, 10, 15)
	if *g != before {
		t.Error("asks changed the grid")
	}
}
