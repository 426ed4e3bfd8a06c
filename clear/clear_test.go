package clear

import (
	"math"
	"strings"
	"sync"
	"testing"

	"fellrunner/api"
	"fellrunner/grid"
)

// die: numbers that look drawn, the same each time.
type die uint64

func (d *die) n(most int) int {
	*d = *d*6364136223846793005 + 1442695040888963407
	return int(uint64(*d>>33) % uint64(most))
}

// wild: numbers that are no cell of any grid, and no direction.
var wild = []int{math.MinInt, math.MinInt + 1, -api.MaxCells, -17, -8, -1, api.MaxCells, api.MaxCells + 1, math.MaxInt - 1, math.MaxInt}

// steps: by how much x and y change, by the words of B2.
var steps = [8][2]int{{0, -1}, {1, -1}, {1, 0}, {1, 1}, {0, 1}, {-1, 1}, {-1, 0}, {-1, -1}}

// drawn: the grid of rows in which '@' is blocked.
func drawn(t *testing.T, rows ...string) *grid.Grid {
	t.Helper()
	g, err := grid.New(len(rows[0]), len(rows))
	if err != nil {
		t.Fatal(err)
	}
	for cell, b := range []byte(strings.Join(rows, "")) {
		if b == '@' {
			setGrid(t, g, cell, true)
		}
	}
	return g
}

// free: a grid without walls.
func free(t *testing.T, w, h int) *grid.Grid {
	t.Helper()
	g, err := grid.New(w, h)
	if err != nil {
		t.Fatal(err)
	}
	return g
}

// plotOf: a drawn grid with walls, few or many.
func plotOf(t *testing.T, d *die, most int) *grid.Grid {
	t.Helper()
	g := free(t, d.n(most)+1, d.n(most)+1)
	thin := d.n(9) + 2
	for cell := range g.Cells() {
		if d.n(thin) == 0 {
			setGrid(t, g, cell, true)
		}
	}
	return g
}

func setGrid(t *testing.T, g *grid.Grid, cell int, blocked bool) {
	t.Helper()
	if did, err := g.Set(cell, blocked); !did || err != nil {
		t.Fatalf("grid: Set(%d, %v) = %v, %v", cell, blocked, did, err)
	}
}

func setTable(t *testing.T, table *Table, cell int, blocked, want bool) {
	t.Helper()
	if did, err := table.Set(cell, blocked); did != want || err != nil {
		t.Errorf("Set(%d, %v) = %v, %v, want %v", cell, blocked, did, err, want)
	}
}

// judge: how many steps, by going them one by one, by the words of B2.
func judge(g *grid.Grid, cell, dir int) int {
	w, _ := g.Size()
	x, y := cell%w, cell/w
	dx, dy := steps[dir][0], steps[dir][1]
	far := 0
	for g.Open(x, y) && g.Open(x+dx, y+dy) && (dir%2 == 0 || g.Open(x+dx, y) && g.Open(x, y+dy)) {
		far++
		x, y = x+dx, y+dy
	}
	return far
}

// checkSteps from a cell in all eight directions.
func checkSteps(t *testing.T, table *Table, cell int, want ...int) {
	t.Helper()
	if len(want) != api.Dirs {
		t.Fatalf("%d numbers are wanted", len(want))
	}
	for dir := range api.Dirs {
		if got, err := table.Steps(cell, dir); got != want[dir] || err != nil {
			t.Errorf("Steps(%d, %d) = %d, %v, want %d", cell, dir, got, err, want[dir])
		}
	}
}

// checkAll that a table tells, against the judge; false: it is wrong.
func checkAll(t *testing.T, table *Table, g *grid.Grid) bool {
	t.Helper()
	good := true
	for cell := range g.Cells() {
		for dir := range api.Dirs {
			want := judge(g, cell, dir)
			if got, err := table.Steps(cell, dir); got != want || err != nil {
				t.Errorf("Steps(%d, %d) = %d, %v, want %d", cell, dir, got, err, want)
				good = false
			}
		}
	}
	return good
}

// checkBound: of what is no cell, or no direction, nothing is told.
func checkBound(t *testing.T, table *Table, cell, dir int) {
	t.Helper()
	if got, err := table.Steps(cell, dir); got != 0 || err != error(api.ErrBound) {
		t.Errorf("Steps(%d, %d) = %d, %v, want ErrBound", cell, dir, got, err)
	}
}

// F1: on the document's map, by hand.
func TestStepsByHand(t *testing.T) {
	g := drawn(t, ".....", ".@@@.", ".@...", ".....")
	table := New(g)
	checkSteps(t, table, 0, 0, 0, 4, 0, 3, 0, 0, 0)
	checkSteps(t, table, 4, 0, 0, 0, 0, 3, 0, 4, 0)
	checkSteps(t, table, 2, 0, 0, 2, 0, 0, 0, 2, 0)
	checkSteps(t, table, 10, 2, 0, 0, 0, 1, 0, 0, 0)
	checkSteps(t, table, 12, 0, 0, 2, 1, 1, 0, 0, 0)
	checkSteps(t, table, 13, 0, 0, 1, 1, 1, 1, 1, 0)
	checkSteps(t, table, 15, 3, 0, 4, 0, 0, 0, 0, 0)
	checkSteps(t, table, 17, 1, 1, 2, 0, 0, 0, 2, 0)
	checkSteps(t, table, 18, 1, 1, 1, 0, 0, 0, 3, 1)
	checkSteps(t, table, 19, 3, 0, 0, 0, 0, 0, 4, 1)
	for _, cell := range []int{6, 7, 8, 11} {
		checkSteps(t, table, cell, 0, 0, 0, 0, 0, 0, 0, 0)
	}
	checkAll(t, table, g)
}

// F1: from one cell on a grid that is wider than high, each direction has a number of its own, as has the same grid turned.
func TestEachDirection(t *testing.T) {
	table := New(free(t, 12, 9))
	checkSteps(t, table, 3*12+4, 3, 3, 7, 5, 5, 4, 4, 3)
	checkSteps(t, table, 0, 0, 0, 11, 8, 8, 0, 0, 0)
	checkSteps(t, table, 11, 0, 0, 0, 0, 8, 8, 11, 0)
	checkSteps(t, table, 8*12, 8, 8, 11, 0, 0, 0, 0, 0)
	checkSteps(t, table, 8*12+11, 8, 0, 0, 0, 0, 0, 11, 8)
	checkSteps(t, New(free(t, 9, 12)), 4*9+3, 4, 4, 5, 5, 7, 3, 3, 3)
}

// F1: the least grid, free and blocked, set from the one to the other and back.
func TestLeastGrid(t *testing.T) {
	for _, first := range []bool{false, true} {
		g := free(t, 1, 1)
		if first {
			setGrid(t, g, 0, true)
		}
		table := New(g)
		was := first
		for _, blocked := range []bool{first, !first, !first, first, first} {
			setTable(t, table, 0, blocked, blocked != was)
			checkSteps(t, table, 0, 0, 0, 0, 0, 0, 0, 0, 0)
			was = blocked
		}
		for _, cell := range append([]int{1, 2}, wild...) {
			checkBound(t, table, cell, 0)
		}
	}
}

// F1: grids of one row or one column.
func TestNarrowGrids(t *testing.T) {
	row := New(drawn(t, "...@.."))
	checkSteps(t, row, 0, 0, 0, 2, 0, 0, 0, 0, 0)
	checkSteps(t, row, 1, 0, 0, 1, 0, 0, 0, 1, 0)
	checkSteps(t, row, 2, 0, 0, 0, 0, 0, 0, 2, 0)
	checkSteps(t, row, 3, 0, 0, 0, 0, 0, 0, 0, 0)
	checkSteps(t, row, 5, 0, 0, 0, 0, 0, 0, 1, 0)
	column := New(drawn(t, ".", ".", ".", "@", ".", "."))
	checkSteps(t, column, 0, 0, 0, 0, 0, 2, 0, 0, 0)
	checkSteps(t, column, 1, 1, 0, 0, 0, 1, 0, 0, 0)
	checkSteps(t, column, 2, 2, 0, 0, 0, 0, 0, 0, 0)
	checkSteps(t, column, 3, 0, 0, 0, 0, 0, 0, 0, 0)
	checkSteps(t, column, 5, 1, 0, 0, 0, 0, 0, 0, 0)
}

// F1: the greatest grid, all free: one goes on to the border; all blocked: nowhere.
func TestGreatestGrid(t *testing.T) {
	const last = api.MaxSide - 1
	g := free(t, api.MaxSide, api.MaxSide)
	table := New(g)
	for cell := range api.MaxCells {
		x, y := cell%api.MaxSide, cell/api.MaxSide
		checkSteps(t, table, cell,
			y, min(y, last-x), last-x, min(last-x, last-y), last-y, min(x, last-y), x, min(x, y))
	}
	checkBound(t, table, api.MaxCells, 0)
	for cell := range api.MaxCells {
		setGrid(t, g, cell, true)
		setTable(t, table, cell, true, true)
	}
	for _, blocked := range []*Table{table, New(g)} {
		for cell := range api.MaxCells {
			checkSteps(t, blocked, cell, 0, 0, 0, 0, 0, 0, 0, 0)
		}
	}
	for cell := range api.MaxCells {
		setTable(t, table, api.MaxCells-1-cell, false, true)
	}
	checkAll(t, table, free(t, api.MaxSide, api.MaxSide))
}

// F1, B2: a cell with one wall beside it: in the wall's direction one may not go, nor past it where its corner would be cut.
func TestOneWallBeside(t *testing.T) {
	for dir, step := range steps {
		g := free(t, 5, 5)
		setGrid(t, g, 12+step[1]*5+step[0], true)
		want := []int{2, 2, 2, 2, 2, 2, 2, 2}
		want[dir] = 0
		if dir%2 == 0 {
			want[(dir+1)%8], want[(dir+7)%8] = 0, 0
		}
		checkSteps(t, New(g), 12, want...)
		table := New(free(t, 5, 5))
		setTable(t, table, 12+step[1]*5+step[0], true, true)
		checkSteps(t, table, 12, want...)
		checkAll(t, table, g)
	}
}

// F1, B2: all ways in which the cells round one may be blocked, it itself and its grid's border among them.
func TestAllRoundACell(t *testing.T) {
	for walls := range 1 << 9 {
		g := free(t, 3, 3)
		table := New(g)
		for cell := range 9 {
			if walls>>cell&1 == 1 {
				setGrid(t, g, cell, true)
				setTable(t, table, cell, true, true)
			}
		}
		if !checkAll(t, New(g), g) || !checkAll(t, table, g) {
			t.Fatalf("walls %b", walls)
		}
	}
}

// F1: a cell from which one may go nowhere, by walls all round, or in the grid's corner.
func TestNowhere(t *testing.T) {
	table := New(drawn(t, "@@@.", "@.@@", "@@@."))
	checkSteps(t, table, 5, 0, 0, 0, 0, 0, 0, 0, 0)
	checkSteps(t, table, 3, 0, 0, 0, 0, 0, 0, 0, 0)
	checkSteps(t, table, 11, 0, 0, 0, 0, 0, 0, 0, 0)
	// Free cells in all corners don't help: one would cut theirs.
	checkSteps(t, New(drawn(t, ".@.", "@.@", ".@.")), 4, 0, 0, 0, 0, 0, 0, 0, 0)
	// Nor do free ones all round a blocked cell.
	checkSteps(t, New(drawn(t, "...", ".@.", "...")), 4, 0, 0, 0, 0, 0, 0, 0, 0)
}

// F1: a wall somewhere along a line of steps, on it or beside it, in each direction: one goes as far as it, and on when it is freed.
func TestWallAlongALine(t *testing.T) {
	const w = 11
	const middle = 5*w + 5
	for dir, step := range steps {
		table := New(free(t, w, w))
		for far := 1; far <= 5; far++ {
			x, y := 5+step[0]*far, 5+step[1]*far
			want := far - 1
			setTable(t, table, y*w+x, true, true)
			checkOne(t, table, middle, dir, want)
			setTable(t, table, y*w+x, false, true)
			checkOne(t, table, middle, dir, 5)
			if dir%2 == 0 {
				continue
			}
			for _, beside := range []int{y*w + x - step[0], (y-step[1])*w + x} {
				setTable(t, table, beside, true, true)
				checkOne(t, table, middle, dir, want)
				setTable(t, table, beside, false, true)
				checkOne(t, table, middle, dir, 5)
			}
		}
	}
}

func checkOne(t *testing.T, table *Table, cell, dir, want int) {
	t.Helper()
	if got, err := table.Steps(cell, dir); got != want || err != nil {
		t.Errorf("Steps(%d, %d) = %d, %v, want %d", cell, dir, got, err, want)
	}
}

// F1: two walls on a line: freeing the near one opens the way to the far one, freeing the far one alone opens nothing.
func TestTwoWallsOnALine(t *testing.T) {
	table := New(drawn(t, "...@...@.."))
	checkOne(t, table, 0, 2, 2)
	setTable(t, table, 7, false, true)
	checkOne(t, table, 0, 2, 2)
	checkOne(t, table, 4, 2, 5)
	setTable(t, table, 7, true, true)
	setTable(t, table, 3, false, true)
	checkOne(t, table, 0, 2, 6)
	checkOne(t, table, 6, 6, 6)
	setTable(t, table, 5, true, true)
	checkOne(t, table, 0, 2, 4)
	checkOne(t, table, 6, 6, 0)
	setTable(t, table, 7, false, true)
	checkOne(t, table, 0, 2, 4)
	checkOne(t, table, 6, 2, 3)
}

// F1, B1, W2: each cell of a grid is set as it is, set otherwise, and set back: all is as it was.
func TestSetAndSetBack(t *testing.T) {
	g := drawn(t,
		".......@",
		".@@@....",
		".@......",
		"....@...",
		"@......@",
		"..@.....",
	)
	table := New(g)
	first := table.steps
	for cell := range g.Cells() {
		isFree, _ := g.Free(cell)
		setTable(t, table, cell, !isFree, false)
		if table.steps != first {
			t.Fatalf("cell %d was so, and the table changed", cell)
		}
		setTable(t, table, cell, isFree, true)
		setTable(t, table, cell, isFree, false)
		setGrid(t, g, cell, isFree)
		checkAll(t, table, g)
		setTable(t, table, cell, !isFree, true)
		setGrid(t, g, cell, !isFree)
		if table.steps != first {
			t.Fatalf("cell %d was set back, and the table isn't as it was", cell)
		}
	}
	checkAll(t, table, g)
}

// F1: drawn grids, and drawn edits of their tables, held against going step by step, and against a new table.
func TestSetDrawn(t *testing.T) {
	d := die(61)
	for range 120 {
		g := plotOf(t, &d, api.MaxSide)
		table := New(g)
		checkAll(t, table, g)
		for range 25 {
			cell, blocked := d.n(g.Cells()), d.n(2) == 0
			did, err := g.Set(cell, blocked)
			if err != nil {
				t.Fatal(err)
			}
			setTable(t, table, cell, blocked, did)
			if !checkAll(t, table, g) {
				t.Fatalf("after Set(%d, %v)", cell, blocked)
			}
		}
		if table.steps != New(g).steps {
			t.Error("the table isn't that of the grid with the edits")
		}
	}
}

// F1: the table is of the grid as it was when it was made, whatever is changed behind it.
func TestGridChangedBehind(t *testing.T) {
	g := drawn(t, ".....", ".@@@.", ".@...", ".....")
	then := g.Copy()
	table := New(g)
	for _, cell := range []int{0, 2, 14, 17} {
		setGrid(t, g, cell, true)
	}
	setGrid(t, g, 7, false)
	checkAll(t, table, then)
	// What is set is set in the grid as it was: cell 0 is free there, and cell 7 is blocked.
	setTable(t, table, 0, false, false)
	setTable(t, table, 7, true, false)
	setTable(t, table, 14, true, true)
	setGrid(t, then, 14, true)
	checkAll(t, table, then)
	checkAll(t, New(g), g)
}

// F1, Z2: a table that is changed changes nothing of its grid, nor of another table of it.
func TestTableChangedBeside(t *testing.T) {
	g := drawn(t, ".....", ".@@@.", ".@...", ".....")
	before := *g
	one, other := New(g), New(g)
	setTable(t, one, 10, true, true)
	setTable(t, one, 8, false, true)
	_, _ = one.Set(99, true)
	if *g != before {
		t.Error("the table changed its grid")
	}
	checkAll(t, other, g)
	changed := g.Copy()
	setGrid(t, changed, 10, true)
	setGrid(t, changed, 8, false)
	checkAll(t, one, changed)
	setTable(t, other, 8, false, true)
	checkAll(t, one, changed)
}

// F1, Z1, Z3: what is no cell or no direction is out of bounds, alone and both together, and none of it changes the table.
func TestWrongNumbers(t *testing.T) {
	for _, g := range []*grid.Grid{drawn(t, "...", ".@."), drawn(t, "@@", "@@"), free(t, api.MaxSide, api.MaxSide), free(t, 1, api.MaxSide)} {
		table := New(g)
		before, plot := table.steps, *table.plot
		cells := append([]int{g.Cells(), g.Cells() + 1}, wild...)
		dirs := append([]int{api.Dirs, api.Dirs + 1, 16}, wild...)
		for _, cell := range cells {
			for dir := range api.Dirs {
				checkBound(t, table, cell, dir)
			}
			for _, dir := range dirs {
				checkBound(t, table, cell, dir)
			}
			for _, blocked := range []bool{true, false} {
				if did, err := table.Set(cell, blocked); did || err != error(api.ErrBound) {
					t.Errorf("Set(%d, %v) = %v, %v, want ErrBound", cell, blocked, did, err)
				}
			}
		}
		for cell := range g.Cells() {
			for _, dir := range dirs {
				checkBound(t, table, cell, dir)
			}
		}
		if table.steps != before || *table.plot != plot {
			t.Error("errors changed the table")
		}
	}
}

// W4, Z2: asks change nothing, and may come all at once.
func TestAsksChangeNothing(t *testing.T) {
	d := die(62)
	g := plotOf(t, &d, api.MaxSide)
	table := New(g)
	before, plot := table.steps, *table.plot
	var all sync.WaitGroup
	for range 4 {
		all.Go(func() { checkAll(t, table, g) })
	}
	all.Wait()
	if table.steps != before || *table.plot != plot {
		t.Error("asks changed the table")
	}
}

// W5: turned and mirrored grids have the same numbers, in directions that are turned and mirrored.
func TestTurnedAndMirrored(t *testing.T) {
	d := die(63)
	for range 40 {
		g := plotOf(t, &d, 9)
		w, h := g.Size()
		turned, mirrored := free(t, h, w), free(t, w, h)
		for cell := range g.Cells() {
			if isFree, _ := g.Free(cell); !isFree {
				setGrid(t, turned, cell%w*h+h-1-cell/w, true)
				setGrid(t, mirrored, cell/w*w+w-1-cell%w, true)
			}
		}
		table, byTurn, byMirror := New(g), New(turned), New(mirrored)
		for cell := range g.Cells() {
			for dir := range api.Dirs {
				want, _ := table.Steps(cell, dir)
				checkOne(t, byTurn, cell%w*h+h-1-cell/w, (dir+2)%8, want)
				checkOne(t, byMirror, cell/w*w+w-1-cell%w, (8-dir)%8, want)
			}
		}
	}
}
