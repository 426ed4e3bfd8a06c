package grid

import "fellrunner/api"

// steps: by how much x and y change, by direction.
var steps = [api.Dirs][2]int{
	{0, -1}, {1, -1}, {1, 0}, {1, 1}, {0, 1}, {-1, 1}, {-1, 0}, {-1, -1},
}

// Step in a direction: how far it goes.
func Step(dir int) (int, int) {
	// The chapter is silent on other numbers; taken round the clock, they can't lead out of the table.
	dir &= api.Dirs - 1
	return steps[dir][0], steps[dir][1]
}

// May: may one go from a place in a direction? A diagonal step needs both places beside it, too.
func (g *Grid) May(x, y, dir int) bool {
	dx, dy := Step(dir)
	// In a straight direction the places beside are the two ends themselves, so one rule does for all.
	return g.Open(x, y) && g.Open(x+dx, y+dy) && g.Open(x+dx, y) && g.Open(x, y+dy)
}

// Moves from a cell: the directions, rising.
func (g *Grid) Moves(cell int) ([]int, error) {
	x, y, err := g.Place(cell)
	if err != nil {
		return nil, err
	}
	var moves []int
	for dir := range api.Dirs {
		if g.May(x, y, dir) {
			moves = append(moves, dir)
		}
	}
	return moves, nil
}

// To: the cell beside one, in a direction.
func (g *Grid) To(cell, dir int) int {
	dx, dy := Step(dir)
	return cell + g.number(dx, dy)
}
