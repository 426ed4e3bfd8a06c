package flood

import (
	"math"
	"slices"
	"strings"
	"sync"
	"testing"

	"fellrunner/api"
	"fellrunner/cost"
	"fellrunner/grid"
)

// die: numbers that look drawn, the same each time.
type die uint64

func (d *die) n(most int) int {
	*d = *d*6364136223846793005 + 1442695040888963407
	return int(uint64(*d>>33) % uint64(most))
}

// wild: numbers that are no cell of any grid.
var wild = []int{math.MinInt, math.MinInt + 1, -api.MaxCells, -17, -1, api.MaxCells, api.MaxCells + 1, math.MaxInt - 1, math.MaxInt}

func c(s, d int) api.Cost { return api.Cost{S: s, D: d} }

// drawn: the grid of rows in which '@' is blocked.
func drawn(t *testing.T, rows ...string) *grid.Grid {
	t.Helper()
	w := len(rows[0])
	g, err := grid.New(w, len(rows))
	if err != nil {
		t.Fatal(err)
	}
	for cell, b := range []byte(strings.Join(rows, "")) {
		if b == '@' {
			block(t, g, cell)
		}
	}
	return g
}

func block(t *testing.T, g *grid.Grid, cell int) {
	t.Helper()
	if did, err := g.Set(cell, true); !did || err != nil {
		t.Fatalf("Set(%d) = %v, %v", cell, did, err)
	}
}

// plotOf: a drawn grid with walls, at times in rows that leave a gap each.
func plotOf(t *testing.T, d *die, most int) *grid.Grid {
	t.Helper()
	w, h := d.n(most)+1, d.n(most)+1
	g, err := grid.New(w, h)
	if err != nil {
		t.Fatal(err)
	}
	thick := d.n(5) + 2
	for cell := range w * h {
		wall := d.n(thick) == 0
		if thick == 6 {
			wall = cell/w%2 == 1 && cell%w != (cell/w*7)%w
		}
		if wall {
			block(t, g, cell)
		}
	}
	return g
}

func from(t *testing.T, g *grid.Grid, cell int) *Flood {
	t.Helper()
	f, err := From(g, cell)
	if err != nil || f == nil {
		t.Fatalf("From(%d) = %v, %v", cell, f, err)
	}
	return f
}

func isFree(g *grid.Grid, cell int) bool {
	free, err := g.Free(cell)
	return free && err == nil
}

// none: what a judge tells of a cell that can't be come to.
var none = math.Inf(1)

// worth of a cost: on a grid this small two costs that differ do so by far more than floats round.
func worth(x api.Cost) float64 { return float64(x.S) + float64(x.D)*math.Sqrt2 }

// judge: how far it is to each cell, by looking at all steps again and again, by the words of B2.
func judge(g *grid.Grid, start int) []float64 {
	w, h := g.Size()
	far := make([]float64, w*h)
	for cell := range far {
		far[cell] = none
	}
	far[start] = 0
	for changed := true; changed; {
		changed = false
		for cell := range far {
			for _, to := range beside(g, cell) {
				via := far[cell] + worth(to.c)
				if far[to.cell]-via > 1e-6 {
					far[to.cell], changed = via, true
				}
			}
		}
	}
	return far
}

type step struct {
	cell int
	c    api.Cost
}

// beside: the cells to which one may go from a cell, by the words of B2.
func beside(g *grid.Grid, cell int) []step {
	w, h := g.Size()
	x, y := cell%w, cell/w
	var l []step
	for ty := max(y-1, 0); ty <= min(y+1, h-1); ty++ {
		for tx := max(x-1, 0); tx <= min(x+1, w-1); tx++ {
			to := ty*w + tx
			free := isFree(g, cell) && isFree(g, to) && isFree(g, y*w+tx) && isFree(g, ty*w+x)
			switch {
			case !free || to == cell:
			case tx == x || ty == y:
				l = append(l, step{to, c(1, 0)})
			default:
				l = append(l, step{to, c(0, 1)})
			}
		}
	}
	return l
}

// walk by the words of E3.
func walk(g *grid.Grid, way []int) (api.Cost, error) {
	sum := c(0, 0)
	for i, cell := range way {
		if cell < 0 || cell >= g.Cells() {
			return c(0, 0), api.ErrBound
		}
		if !isFree(g, cell) {
			return c(0, 0), api.ErrBlocked
		}
		if i == 0 {
			continue
		}
		l := beside(g, way[i-1])
		at := slices.IndexFunc(l, func(s step) bool { return s.cell == cell })
		if at < 0 {
			return c(0, 0), api.ErrShape
		}
		sum.S, sum.D = sum.S+l[at].c.S, sum.D+l[at].c.D
	}
	if len(way) == 0 {
		return sum, api.ErrShape
	}
	return sum, nil
}

func checkCost(t *testing.T, f *Flood, cell int, want api.Cost) {
	t.Helper()
	if got, err := f.Cost(cell); got != want || err != nil {
		t.Errorf("Cost(%d) = %v, %v, want %v", cell, got, err, want)
	}
}

// checkError of Cost, which is Way's, too.
func checkError(t *testing.T, f *Flood, cell int, want api.Errno) {
	t.Helper()
	if got, err := f.Cost(cell); got != c(0, 0) || err != error(want) {
		t.Errorf("Cost(%d) = %v, %v, want %v", cell, got, err, want)
	}
	if way, err := f.Way(cell); len(way) != 0 || err != error(want) {
		t.Errorf("Way(%d) = %v, %v, want %v", cell, way, err, want)
	}
}

func checkReached(t *testing.T, f *Flood, want int) {
	t.Helper()
	if got := f.Reached(); got != want {
		t.Errorf("Reached() = %d, want %d", got, want)
	}
}

func checkWalk(t *testing.T, g *grid.Grid, want api.Cost, way ...int) {
	t.Helper()
	if got, err := Walk(g, way); got != want || err != nil {
		t.Errorf("Walk(%v) = %v, %v, want %v", way, got, err, want)
	}
}

func checkNoWalk(t *testing.T, g *grid.Grid, want api.Errno, way ...int) {
	t.Helper()
	if got, err := Walk(g, way); got != c(0, 0) || err != error(want) {
		t.Errorf("Walk(%v) = %v, %v, want %v", way, got, err, want)
	}
}

// checkWay: it leads from the one to the other, step by step, and costs what is told.
func checkWay(t *testing.T, f *Flood, g *grid.Grid, first, cell int) []int {
	t.Helper()
	way, err := f.Way(cell)
	if err != nil || len(way) == 0 || way[0] != first || way[len(way)-1] != cell {
		t.Fatalf("from %d: Way(%d) = %v, %v", first, cell, way, err)
	}
	sum, err := walk(g, way)
	if err != nil {
		t.Errorf("from %d: Way(%d) = %v, which is none: %v", first, cell, way, err)
	}
	checkCost(t, f, cell, sum)
	checkWalk(t, g, sum, way...)
	return way
}

// checkAll that a flood tells, against the judge.
func checkAll(t *testing.T, f *Flood, g *grid.Grid, first int) {
	t.Helper()
	reached := 0
	for cell, far := range judge(g, first) {
		if far == none {
			checkError(t, f, cell, api.ErrNone)
			continue
		}
		reached++
		if got, err := f.Cost(cell); math.Abs(worth(got)-far) > 1e-6 || err != nil {
			t.Errorf("from %d: Cost(%d) = %v, %v, want what is %v", first, cell, got, err, far)
		}
		checkWay(t, f, g, first, cell)
	}
	checkReached(t, f, reached)
}

// E1: on the document's map, from one cell to each.
func TestCostsByHand(t *testing.T) {
	g := drawn(t, ".....", ".@@@.", ".@...", ".....")
	f := from(t, g, 10)
	want := map[int]api.Cost{
		0: c(2, 0), 1: c(3, 0), 2: c(4, 0), 3: c(5, 0), 4: c(6, 0), 5: c(1, 0), 9: c(5, 1), 10: c(0, 0),
		12: c(4, 0), 13: c(3, 1), 14: c(4, 1), 15: c(1, 0), 16: c(2, 0), 17: c(3, 0), 18: c(4, 0), 19: c(5, 0),
	}
	for cell := range 20 {
		if x, free := want[cell]; free {
			checkCost(t, f, cell, x)
		} else {
			checkError(t, f, cell, api.ErrNone)
		}
	}
	checkReached(t, f, len(want))
	checkAll(t, f, g, 10)
}

// E1, E2: from each cell of a grid: free ones in a corner, on a border, in the middle, beside walls, shut in; blocked ones.
func TestFromEachCell(t *testing.T) {
	g := drawn(t,
		"......@.",
		".@@@..@@",
		".@.@....",
		".@@@.@..",
		"......@.",
		"@.......",
	)
	for cell := range g.Cells() {
		if isFree(g, cell) {
			checkAll(t, from(t, g, cell), g, cell)
		} else if f, err := From(g, cell); f != nil || err != error(api.ErrBlocked) {
			t.Errorf("From(%d) = %v, %v, want ErrBlocked", cell, f, err)
		}
	}
}

// E1, Z3: what is no cell is out of bounds, also where nothing is free.
func TestFromNone(t *testing.T) {
	for _, g := range []*grid.Grid{drawn(t, "...", "..."), drawn(t, "@@@", "@@@"), drawn(t, "."), drawn(t, "@")} {
		for _, cell := range append([]int{g.Cells(), g.Cells() + 1}, wild...) {
			if f, err := From(g, cell); f != nil || err != error(api.ErrBound) {
				t.Errorf("From(%d) = %v, %v, want ErrBound", cell, f, err)
			}
		}
	}
	if f, err := From(drawn(t, "@"), 0); f != nil || err != error(api.ErrBlocked) {
		t.Errorf("From(0) = %v, %v, want ErrBlocked", f, err)
	}
}

// E1, E2, Z3: out of bounds is told of what is no cell, ErrNone of what can't be come to, blocked or not.
func TestWrongCells(t *testing.T) {
	g := drawn(t, "..@.", "..@@")
	f := from(t, g, 0)
	for _, cell := range append([]int{8, 9, 12}, wild...) {
		checkError(t, f, cell, api.ErrBound)
	}
	for _, cell := range []int{2, 3, 6, 7} {
		checkError(t, f, cell, api.ErrNone)
	}
	checkCost(t, f, 5, c(0, 1))
	checkReached(t, f, 4)
}

// E1, E2: a cell from which nothing can be come to, by walls all round or by corners that may not be cut.
func TestShutIn(t *testing.T) {
	for _, g := range []*grid.Grid{drawn(t, "@@@", "@.@", "@@@"), drawn(t, ".@.", "@.@", ".@.")} {
		f := from(t, g, 4)
		checkReached(t, f, 1)
		for cell := range 9 {
			if cell == 4 {
				checkCost(t, f, 4, c(0, 0))
				continue
			}
			checkError(t, f, cell, api.ErrNone)
		}
		if way, err := f.Way(4); !slices.Equal(way, []int{4}) || err != nil {
			t.Errorf("Way(4) = %v, %v", way, err)
		}
	}
}

// E1, E2: the least grid.
func TestLeastGrid(t *testing.T) {
	g := drawn(t, ".")
	f := from(t, g, 0)
	checkAll(t, f, g, 0)
	checkCost(t, f, 0, c(0, 0))
	checkReached(t, f, 1)
	for _, cell := range append([]int{1}, wild...) {
		checkError(t, f, cell, api.ErrBound)
	}
}

// E1, E2, A3: the greatest grid, all free: from each cell to each it is as far as if nothing were in the way.
func TestGreatestGridFree(t *testing.T) {
	const side = api.MaxSide
	g := drawn(t, slices.Repeat([]string{strings.Repeat(".", side)}, side)...)
	for first := range api.MaxCells {
		f := from(t, g, first)
		checkReached(t, f, api.MaxCells)
		for cell := range api.MaxCells {
			across, down := first%side-cell%side, first/side-cell/side
			across, down = max(across, -across), max(down, -down)
			checkCost(t, f, cell, c(max(across, down)-min(across, down), min(across, down)))
		}
		checkWay(t, f, g, first, api.MaxCells-1-first)
	}
}

// E1, E2: the greatest grid, with one winding way from end to end.
func TestGreatestGridWinding(t *testing.T) {
	rows := make([]string, api.MaxSide)
	for y := range rows {
		switch y % 4 {
		case 1:
			rows[y] = strings.Repeat("@", api.MaxSide-1) + "."
		case 3:
			rows[y] = "." + strings.Repeat("@", api.MaxSide-1)
		default:
			rows[y] = strings.Repeat(".", api.MaxSide)
		}
	}
	g := drawn(t, rows...)
	f := from(t, g, 0)
	checkReached(t, f, 8*16+8)
	// Eight rows of 15 steps and seven gaps of two; the last row is a gap's, come to at its left end.
	checkCost(t, f, 14*16, c(8*15+7*2, 0))
	checkCost(t, f, 15*16, c(8*15+7*2+1, 0))
	checkWay(t, f, g, 0, 15*16)
	checkAll(t, f, g, 0)
}

// E1: round the end of a wall no corner is cut, and of ways with as many steps the one with fewer diagonal ones costs less.
func TestRoundAWall(t *testing.T) {
	g := drawn(t, "...", "@@.", "...")
	f := from(t, g, 0)
	checkCost(t, f, 6, c(6, 0))
	checkCost(t, f, 5, c(3, 0))
	g = drawn(t, "..@..", ".....", ".....")
	f = from(t, g, 0)
	checkCost(t, f, 4, c(2, 2))
	checkCost(t, f, 3, c(3, 1))
	checkCost(t, f, 8, c(2, 1))
}

// E1, Z2: the grid as it was, whatever is changed behind the flood; and the flood changes nothing of it.
func TestGridChangedBehind(t *testing.T) {
	g := drawn(t, ".....", ".@@@.", ".@...", ".....")
	before := *g
	then := g.Copy()
	f := from(t, g, 10)
	if *g != before {
		t.Error("From changed the grid")
	}
	for _, cell := range []int{5, 15, 16, 10} {
		block(t, g, cell)
	}
	g.Set(11, false)
	g.Set(7, false)
	checkAll(t, f, then, 10)
	checkError(t, f, 11, api.ErrNone)
	checkCost(t, f, 10, c(0, 0))
	if _, err := From(g, 10); err != error(api.ErrBlocked) {
		t.Errorf("From(10) = %v, want ErrBlocked", err)
	}
	checkReached(t, from(t, g, 11), 14)
	for _, cell := range []int{5, 15, 16, 10} {
		g.Set(cell, false)
	}
	checkCost(t, from(t, g, 10), 12, c(2, 0))
	checkAll(t, f, then, 10)
}

// Z2: two floods of one grid go on apart; so do ways that were told.
func TestFresh(t *testing.T) {
	g := drawn(t, ".....", ".@@@.", ".@...", ".....")
	f, other := from(t, g, 10), from(t, g, 4)
	first, _ := f.Way(9)
	second, _ := f.Way(9)
	kept := slices.Clone(second)
	for i := range first {
		first[i] = 11
	}
	first = append(first[:0], -1, -1)
	if !slices.Equal(second, kept) {
		t.Errorf("two ways share memory: %v", second)
	}
	checkAll(t, f, g, 10)
	checkAll(t, other, g, 4)
	if again, _ := f.Way(9); !slices.Equal(again, kept) {
		t.Errorf("Way(9) = %v, then %v", kept, again)
	}
}

// W4: asks change nothing, all at once or one by one.
func TestAsksAtOnce(t *testing.T) {
	g := drawn(t, "......@.", ".@@@..@@", ".@.@....", ".@@@.@..", "......@.", "@.......")
	f := from(t, g, 0)
	var group sync.WaitGroup
	for range 8 {
		group.Go(func() {
			for cell := range g.Cells() {
				x, err := f.Cost(cell)
				way, _ := f.Way(cell)
				if sum, _ := walk(g, way); err == nil && sum != x {
					t.Errorf("Cost(%d) = %v, Way(%d) costs %v", cell, x, cell, sum)
				}
			}
		})
	}
	group.Wait()
	checkAll(t, f, g, 0)
}

// E1, E2: drawn grids of all sizes, held against the judge.
func TestDrawnGrids(t *testing.T) {
	d := die(22)
	for range 250 {
		g := plotOf(t, &d, api.MaxSide)
		cell := d.n(g.Cells())
		if isFree(g, cell) {
			checkAll(t, from(t, g, cell), g, cell)
		} else if f, err := From(g, cell); f != nil || err != error(api.ErrBlocked) {
			t.Errorf("From(%d) = %v, %v, want ErrBlocked", cell, f, err)
		}
	}
}

// W1, W4: each part of a way is as short as can be; back it is as far as there; by a third cell never nearer.
func TestPartsAndBack(t *testing.T) {
	d := die(23)
	for range 25 {
		g := plotOf(t, &d, 7)
		floods := map[int]*Flood{}
		for cell := range g.Cells() {
			if isFree(g, cell) {
				floods[cell] = from(t, g, cell)
			}
		}
		for a, f := range floods {
			for b := range floods {
				ab, err := f.Cost(b)
				back, errBack := floods[b].Cost(a)
				if ab != back || err != errBack {
					t.Errorf("from %d to %d: %v, %v, back %v, %v", a, b, ab, err, back, errBack)
				}
				if err != nil {
					continue
				}
				checkParts(t, floods, g, checkWay(t, f, g, a, b))
				for third := range floods {
					there, err := f.Cost(third)
					rest, _ := floods[third].Cost(b)
					if err == nil && cost.Less(cost.Add(there, rest), ab) {
						t.Errorf("from %d to %d it is nearer by %d", a, b, third)
					}
				}
			}
		}
	}
}

func checkParts(t *testing.T, floods map[int]*Flood, g *grid.Grid, way []int) {
	t.Helper()
	for i := range way {
		part, err := walk(g, way[i:])
		if err != nil {
			t.Errorf("%v from %d on is none: %v", way, i, err)
		}
		checkCost(t, floods[way[i]], way[len(way)-1], part)
	}
}

// W5: a wall more makes no way shorter; mirrored or turned, a grid's ways cost the same.
func TestWallsAndTurns(t *testing.T) {
	d := die(24)
	for range 60 {
		g := plotOf(t, &d, 9)
		w, h := g.Size()
		first := d.n(w * h)
		if !isFree(g, first) {
			continue
		}
		f := from(t, g, first)
		turned, err := grid.New(h, w)
		if err != nil {
			t.Fatal(err)
		}
		turn := func(cell int) int { return cell%w*h + h - 1 - cell/w }
		for cell := range w * h {
			turned.Set(turn(cell), !isFree(g, cell))
		}
		other := from(t, turned, turn(first))
		wall := d.n(w * h)
		if wall != first {
			g.Set(wall, true)
		}
		walled := from(t, g, first)
		checkReached(t, other, f.Reached())
		for cell := range w * h {
			x, err := f.Cost(cell)
			if y, e := other.Cost(turn(cell)); y != x || e != err {
				t.Errorf("Cost(%d) = %v, %v, turned %v, %v", cell, x, err, y, e)
			}
			if y, e := walled.Cost(cell); e == nil && (err != nil || cost.Less(y, x)) {
				t.Errorf("Cost(%d) = %v, %v, with a wall more %v", cell, x, err, y)
			}
		}
	}
}
