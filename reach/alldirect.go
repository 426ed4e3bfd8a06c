package reach

import (
	"slices"

	"fellrunner/api"
	"fellrunner/corner"
	"fellrunner/grid"
)

// AllDirect: the cells that are directly near one, itself among them, rising.
func AllDirect(g *grid.Grid, a int) ([]int, error) {
	if err := g.Check(a); err != nil {
		return nil, err
	}
	var direct []int
	behind := cells{}
	for front := (cells{a: {}}); len(front) > 0; front = goOut(g, front, behind, a) {
		// All that leads here was gone already: each step of a way that is as short leads one step farther off.
		for cell := range front {
			if _, is := behind[cell]; !is {
				direct = append(direct, cell)
			}
		}
	}
	slices.Sort(direct)
	return direct, nil
}

// goOut by a step away from a cell, from each of some; what is come to past a corner is behind from then on.
func goOut(g *grid.Grid, front, behind cells, a int) cells {
	ahead := cells{}
	for cell := range front {
		// It is a cell, so there is no error.
		isCorner, _ := corner.Is(g, cell)
		_, isBehind := behind[cell]
		for _, beside := range outward(g, cell, a) {
			ahead[beside] = struct{}{}
			if isBehind || isCorner && cell != a {
				behind[beside] = struct{}{}
			}
		}
	}
	return ahead
}

// outward: the cells to which one may go from a cell by a step that leads as much farther from another one as it costs.
func outward(g *grid.Grid, cell, from int) []int {
	// Both were checked, or come to, so they have places.
	x, y, _ := g.Place(cell)
	fx, fy, _ := g.Place(from)
	var ahead []int
	for dir := range api.Dirs {
		dx, dy := grid.Step(dir)
		if g.May(x, y, dir) && isTowards(x+dx, y+dy, back(dir), fx, fy) {
			ahead = append(ahead, g.To(cell, dir))
		}
	}
	return ahead
}

// back: the direction that leads back.
func back(dir int) int { return (dir + api.Dirs/2) % api.Dirs }
