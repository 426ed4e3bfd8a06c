// Package grid: where one may go.
package grid

import "fellrunner/api"

// Grid of cells, by rows; each is free or blocked.
type Grid struct {
	width, height int
	version       int
	blocked       [api.MaxCells]bool
}

// New grid: all is free.
func New(w, h int) (*Grid, error) {
	if !isSide(w) || !isSide(h) {
		return nil, api.ErrBound
	}
	return &Grid{width: w, height: h}, nil
}

func isSide(n int) bool { return 1 <= n && n <= api.MaxSide }

// Size of a grid: how many columns, and how many rows.
func (g *Grid) Size() (int, int) { return g.width, g.height }

// Cells: how many.
func (g *Grid) Cells() int { return g.width * g.height }

// Cell at a place.
func (g *Grid) Cell(x, y int) (int, error) {
	if !g.hasPlace(x, y) {
		return 0, api.ErrBound
	}
	return g.number(x, y), nil
}

// Place of a cell: its column and its row.
func (g *Grid) Place(cell int) (int, int, error) {
	if !g.hasCell(cell) {
		return 0, 0, api.ErrBound
	}
	return cell % g.width, cell / g.width, nil
}

// Open: is a place free? None is beyond the grid.
func (g *Grid) Open(x, y int) bool {
	return g.hasPlace(x, y) && !g.blocked[g.number(x, y)]
}

// Free: is a cell?
func (g *Grid) Free(cell int) (bool, error) {
	if !g.hasCell(cell) {
		return false, api.ErrBound
	}
	return !g.blocked[cell], nil
}

// Check a cell: may one be in it? ErrBound: it is none; ErrBlocked: it isn't free.
func (g *Grid) Check(cell int) error {
	free, err := g.Free(cell)
	if err != nil {
		return err
	}
	if !free {
		return api.ErrBlocked
	}
	return nil
}

// Version: how many times a cell changed.
func (g *Grid) Version() int { return g.version }

// Set a cell blocked, or free; false: it was so.
func (g *Grid) Set(cell int, blocked bool) (bool, error) {
	if !g.hasCell(cell) {
		return false, api.ErrBound
	}
	if g.blocked[cell] == blocked {
		return false, nil
	}
	g.blocked[cell] = blocked
	g.version++
	return true, nil
}

// Copy of a grid: it goes on apart.
func (g *Grid) Copy() *Grid {
	other := *g
	return &other
}

func (g *Grid) hasPlace(x, y int) bool {
	return 0 <= x && x < g.width && 0 <= y && y < g.height
}

func (g *Grid) hasCell(cell int) bool { return 0 <= cell && cell < g.Cells() }

func (g *Grid) number(x, y int) int { return y*g.width + x }
