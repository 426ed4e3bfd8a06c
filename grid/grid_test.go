package grid

import (
	"math"
	"slices"
	"testing"

	"fellrunner/api"
)

// die: numbers that look drawn, the same each time.
type die uint64

func (d *die) n(most int) int {
	*d = *d*6364136223846793005 + 1442695040888963407
	return int(uint64(*d>>33) % uint64(most))
}

// wild: numbers that are no cell, column or row of any grid.
var wild = []int{math.MinInt, math.MinInt + 1, -api.MaxCells, -17, -1, api.MaxCells, api.MaxCells + 1, math.MaxInt - 1, math.MaxInt}

func sized(t *testing.T, w, h int) *Grid {
	t.Helper()
	g, err := New(w, h)
	if err != nil || g == nil {
		t.Fatalf("New(%d, %d) = %v, %v", w, h, g, err)
	}
	return g
}

// drawn: the grid of rows in which '@' is blocked.
func drawn(t *testing.T, rows ...string) *Grid {
	t.Helper()
	g := sized(t, len(rows[0]), len(rows))
	for y, row := range rows {
		for x := range len(row) {
			if row[x] == '@' {
				set(t, g, y*len(row)+x, true, true)
			}
		}
	}
	return g
}

func set(t *testing.T, g *Grid, cell int, blocked, want bool) {
	t.Helper()
	if did, err := g.Set(cell, blocked); did != want || err != nil {
		t.Errorf("Set(%d, %v) = %v, %v, want %v", cell, blocked, did, err, want)
	}
}

// B1, Z1, Z3: which sizes there are.
func TestNew(t *testing.T) {
	for w := -2; w <= api.MaxSide+2; w++ {
		for h := -2; h <= api.MaxSide+2; h++ {
			g, err := New(w, h)
			if w < 1 || w > api.MaxSide || h < 1 || h > api.MaxSide {
				if g != nil || err != error(api.ErrBound) {
					t.Errorf("New(%d, %d) = %v, %v, want ErrBound", w, h, g, err)
				}
				continue
			}
			if err != nil {
				t.Fatalf("New(%d, %d): %v", w, h, err)
			}
			gotW, gotH := g.Size()
			if gotW != w || gotH != h || g.Cells() != w*h || g.Version() != 0 {
				t.Errorf("New(%d, %d): size %d, %d, cells %d, version %d", w, h, gotW, gotH, g.Cells(), g.Version())
			}
		}
	}
	for _, n := range wild {
		for _, pair := range [][2]int{{n, 1}, {1, n}, {n, n}} {
			if g, err := New(pair[0], pair[1]); g != nil || err != error(api.ErrBound) {
				t.Errorf("New(%v) = %v, %v, want ErrBound", pair, g, err)
			}
		}
	}
}

// B1: cells are numbered row by row, and a new grid is free all over.
func TestCellsAndPlaces(t *testing.T) {
	for _, size := range [][2]int{{1, 1}, {1, 16}, {16, 1}, {5, 4}, {4, 5}, {16, 16}} {
		w, h := size[0], size[1]
		g := sized(t, w, h)
		next := 0
		for y := range h {
			for x := range w {
				if cell, err := g.Cell(x, y); cell != next || err != nil {
					t.Errorf("%v: Cell(%d, %d) = %d, %v, want %d", size, x, y, cell, err, next)
				}
				if gotX, gotY, err := g.Place(next); gotX != x || gotY != y || err != nil {
					t.Errorf("%v: Place(%d) = %d, %d, %v, want %d, %d", size, next, gotX, gotY, err, x, y)
				}
				if free, err := g.Free(next); !free || err != nil || !g.Open(x, y) {
					t.Errorf("%v: cell %d isn't free (%v)", size, next, err)
				}
				next++
			}
		}
	}
}

// B1, Z3: one may be in a free cell, not in a blocked one, and nowhere else.
func TestCheck(t *testing.T) {
	g := drawn(t, "..@", "@..")
	for cell, want := range []error{nil, nil, api.ErrBlocked, api.ErrBlocked, nil, nil, api.ErrBound} {
		if err := g.Check(cell); err != want {
			t.Errorf("Check(%d) = %v, want %v", cell, err, want)
		}
	}
	for _, cell := range wild {
		if err := g.Check(cell); err != error(api.ErrBound) {
			t.Errorf("Check(%d) = %v, want ErrBound", cell, err)
		}
	}
}

// B1, Z1, Z3: what is beyond the border is no cell, and asks for it change nothing.
func TestBeyondTheBorder(t *testing.T) {
	for _, size := range [][2]int{{1, 1}, {5, 4}, {3, 16}, {16, 16}} {
		w, h := size[0], size[1]
		g := sized(t, w, h)
		set(t, g, w*h-1, true, true)
		before := *g
		for _, x := range append([]int{w, w + 1, 0, w - 1}, wild...) {
			for _, y := range append([]int{h, h + 1, 0, h - 1}, wild...) {
				if 0 <= x && x < w && 0 <= y && y < h {
					continue
				}
				if cell, err := g.Cell(x, y); cell != 0 || err != error(api.ErrBound) {
					t.Errorf("%v: Cell(%d, %d) = %d, %v, want ErrBound", size, x, y, cell, err)
				}
				if g.Open(x, y) {
					t.Errorf("%v: %d, %d is open", size, x, y)
				}
			}
		}
		for _, cell := range append([]int{w * h, w*h + 1, w*h + w}, wild...) {
			if x, y, err := g.Place(cell); x != 0 || y != 0 || err != error(api.ErrBound) {
				t.Errorf("%v: Place(%d) = %d, %d, %v, want ErrBound", size, cell, x, y, err)
			}
			if free, err := g.Free(cell); free || err != error(api.ErrBound) {
				t.Errorf("%v: Free(%d) = %v, %v, want ErrBound", size, cell, free, err)
			}
			if l, err := g.Moves(cell); len(l) != 0 || err != error(api.ErrBound) {
				t.Errorf("%v: Moves(%d) = %v, %v, want ErrBound", size, cell, l, err)
			}
			for _, blocked := range []bool{true, false} {
				if did, err := g.Set(cell, blocked); did || err != error(api.ErrBound) {
					t.Errorf("%v: Set(%d, %v) = %v, %v, want ErrBound", size, cell, blocked, did, err)
				}
			}
		}
		if *g != before {
			t.Errorf("%v: errors changed the grid", size)
		}
	}
}

// B1: Set tells what changed, and Version counts just that.
func TestSet(t *testing.T) {
	g := sized(t, 5, 4)
	steps := []struct {
		cell          int
		blocked, want bool
		version       int
	}{
		{6, false, false, 0}, {6, true, true, 1}, {6, true, false, 1}, {19, true, true, 2},
		{0, true, true, 3}, {6, false, true, 4}, {6, false, false, 4}, {6, true, true, 5},
	}
	for i, s := range steps {
		set(t, g, s.cell, s.blocked, s.want)
		if free, err := g.Free(s.cell); free == s.blocked || err != nil {
			t.Errorf("step %d: Free(%d) = %v, %v", i, s.cell, free, err)
		}
		if g.Open(s.cell%5, s.cell/5) == s.blocked {
			t.Errorf("step %d: Open of cell %d is wrong", i, s.cell)
		}
		if g.Version() != s.version {
			t.Errorf("step %d: version %d, want %d", i, g.Version(), s.version)
		}
	}
	for cell := range 20 {
		want := cell != 0 && cell != 6 && cell != 19
		if free, _ := g.Free(cell); free != want {
			t.Errorf("in the end Free(%d) = %v", cell, free)
		}
	}
	if g.Cells() != 20 {
		t.Errorf("blocked cells are cells, too: %d", g.Cells())
	}
}

// B1: every cell of the greatest grid can be blocked and freed by itself.
func TestSetEveryCell(t *testing.T) {
	g := sized(t, api.MaxSide, api.MaxSide)
	for cell := range api.MaxCells {
		set(t, g, cell, true, true)
		for other := range api.MaxCells {
			if free, err := g.Free(other); free == (other == cell) || err != nil {
				t.Fatalf("while %d is blocked, Free(%d) = %v, %v", cell, other, free, err)
			}
		}
		set(t, g, cell, false, true)
	}
	if g.Version() != 2*api.MaxCells {
		t.Errorf("version %d", g.Version())
	}
}

// B1, Z2: a copy is the same, and each goes on apart; so do two grids that are made alike.
func TestCopy(t *testing.T) {
	g := drawn(t, "..@", ".@.")
	set(t, g, 4, false, true)
	other := g.Copy()
	if other == g || *other != *g || other.Version() != 3 {
		t.Fatalf("the copy is %v of %v", *other, *g)
	}
	set(t, g, 0, true, true)
	set(t, other, 5, true, true)
	set(t, other, 2, false, true)
	if free, _ := other.Free(0); !free || other.Version() != 5 {
		t.Errorf("the copy followed the grid: version %d", other.Version())
	}
	freed, _ := g.Free(5)
	walled, _ := g.Free(2)
	if !freed || walled || g.Version() != 4 {
		t.Errorf("the grid followed the copy: version %d", g.Version())
	}
	apart := sized(t, 3, 2)
	if free, _ := apart.Free(2); !free || apart.Version() != 0 {
		t.Errorf("a new grid is not free: version %d", apart.Version())
	}
}

// B1, Z2: a drawn session, held against a plain list of what is blocked.
func TestSetDrawn(t *testing.T) {
	d := die(3)
	for range 60 {
		w, h := d.n(api.MaxSide)+1, d.n(api.MaxSide)+1
		g := sized(t, w, h)
		blocked := make([]bool, w*h)
		version := 0
		for range 80 {
			cell, to := d.n(w*h), d.n(2) == 0
			changes := blocked[cell] != to
			set(t, g, cell, to, changes)
			blocked[cell] = to
			if changes {
				version++
			}
		}
		if g.Version() != version {
			t.Errorf("%d, %d: version %d, want %d", w, h, g.Version(), version)
		}
		for cell, is := range blocked {
			if free, err := g.Free(cell); free == is || err != nil {
				t.Errorf("%d, %d: Free(%d) = %v, %v", w, h, cell, free, err)
			}
		}
		checkMoves(t, g, func(x, y int) bool {
			return x >= 0 && x < w && y >= 0 && y < h && !blocked[y*w+x]
		})
	}
}

// checkMoves holds May and Moves of each cell against the words of B2.
func checkMoves(t *testing.T, g *Grid, open func(x, y int) bool) {
	t.Helper()
	w, h := g.Size()
	for y := range h {
		for x := range w {
			var want []int
			for dir := range api.Dirs {
				dx, dy := Step(dir)
				may := open(x, y) && open(x+dx, y+dy)
				if dir%2 == 1 {
					may = may && open(x+dx, y) && open(x, y+dy)
				}
				if g.May(x, y, dir) != may {
					t.Errorf("May(%d, %d, %d) = %v", x, y, dir, !may)
				}
				if may {
					want = append(want, dir)
				}
			}
			if l, err := g.Moves(y*w + x); !slices.Equal(l, want) || err != nil {
				t.Errorf("Moves(%d) = %v, %v, want %v", y*w+x, l, err, want)
			}
		}
	}
}
