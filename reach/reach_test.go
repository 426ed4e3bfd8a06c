package reach

import (
	"math"
	"slices"
	"strings"
	"sync"
	"testing"

	"fellrunner/api"
	"fellrunner/corner"
	"fellrunner/cost"
	"fellrunner/flood"
	"fellrunner/grid"
)

// die: numbers that look drawn, the same each time.
type die uint64

func (d *die) n(most int) int {
	*d = *d*6364136223846793005 + 1442695040888963407
	return int(uint64(*d>>33) % uint64(most))
}

// wild: numbers that are no cell of any grid.
var wild = []int{math.MinInt, math.MinInt + 1, -api.MaxCells, -17, -1, api.MaxCells, api.MaxCells + 1, math.MaxInt - 1, math.MaxInt}

// drawn: the grid of rows in which '@' is blocked.
func drawn(t *testing.T, rows ...string) *grid.Grid {
	t.Helper()
	g := free(t, len(rows[0]), len(rows))
	for cell, b := range []byte(strings.Join(rows, "")) {
		if b == '@' {
			set(t, g, cell, true)
		}
	}
	return g
}

// free: a grid without walls.
func free(t *testing.T, w, h int) *grid.Grid {
	t.Helper()
	g, err := grid.New(w, h)
	if err != nil {
		t.Fatal(err)
	}
	return g
}

func set(t *testing.T, g *grid.Grid, cell int, blocked bool) {
	t.Helper()
	if did, err := g.Set(cell, blocked); !did || err != nil {
		t.Fatalf("Set(%d, %v) = %v, %v", cell, blocked, did, err)
	}
}

// plotOf: a drawn grid with walls, few or many.
func plotOf(t *testing.T, d *die, most int) *grid.Grid {
	t.Helper()
	g := free(t, d.n(most)+1, d.n(most)+1)
	thin := d.n(12) + 2
	for cell := range g.Cells() {
		if d.n(thin) == 0 {
			set(t, g, cell, true)
		}
	}
	return g
}

func isFree(g *grid.Grid, cell int) bool {
	is, err := g.Free(cell)
	return is && err == nil
}

func isCorner(g *grid.Grid, cell int) bool {
	is, err := corner.Is(g, cell)
	return is && err == nil
}

// octile between two cells.
func octile(g *grid.Grid, a, b int) api.Cost {
	w, _ := g.Size()
	return cost.Octile(a%w, a/w, b%w, b/w)
}

// verdict: what is told of two cells; way: nil: they aren't near.
type verdict struct {
	near, direct bool
	way          []int
}

// judgeByHand: by the words: all ways are gone that have as many straight and diagonal steps as Octile says. It is for small grids.
func judgeByHand(g *grid.Grid, a, b int) verdict {
	v := verdict{direct: true}
	var turns []bool
	goWays(g, []int{a}, nil, octile(g, a, b), b, func(way []int, diagonal []bool) {
		v.near = true
		for _, cell := range way {
			v.direct = v.direct && (cell == a || cell == b || !isCorner(g, cell))
		}
		if v.way == nil || isBetter(diagonal, turns) {
			v.way, turns = slices.Clone(way), slices.Clone(diagonal)
		}
	})
	v.direct = v.direct && v.near
	return v
}

// goWays: each way that goes on from one, with so much left to spend, and ends at a cell; of each step: is it diagonal?
func goWays(g *grid.Grid, way []int, diagonal []bool, left api.Cost, end int, tell func([]int, []bool)) {
	cell := way[len(way)-1]
	if left == (api.Cost{}) {
		if cell == end {
			tell(way, diagonal)
		}
		return
	}
	moves, _ := g.Moves(cell)
	for _, dir := range moves {
		rest := left
		if dir%2 == 1 {
			rest.D--
		} else {
			rest.S--
		}
		if rest.S >= 0 && rest.D >= 0 {
			goWays(g, append(way[:len(way):len(way)], g.To(cell, dir)), append(diagonal[:len(diagonal):len(diagonal)], dir%2 == 1), rest, end, tell)
		}
	}
}

// isBetter: where two ways part, is the one's step diagonal?
func isBetter(one, other []bool) bool {
	for i := range one {
		if one[i] != other[i] {
			return one[i]
		}
	}
	return false
}

// judgeByFloods: by how far it is from both ends, over all cells.
func judgeByFloods(g *grid.Grid, a, b int) verdict {
	far, err := flood.From(g, a)
	back, _ := flood.From(g, b)
	if c, e := far.Cost(b); err != nil || e != nil || c != octile(g, a, b) {
		return verdict{}
	}
	v := verdict{near: true, direct: true, way: []int{a}}
	for cell := range g.Cells() {
		there, e1 := far.Cost(cell)
		rest, e2 := back.Cost(cell)
		if e1 == nil && e2 == nil && cost.Add(there, rest) == octile(g, a, b) && cell != a && cell != b && isCorner(g, cell) {
			v.direct = false
		}
	}
	for cell := a; cell != b; {
		left, _ := back.Cost(cell)
		moves, _ := g.Moves(cell)
		// Diagonal directions are odd ones: they are to come first.
		slices.SortStableFunc(moves, func(one, other int) int { return other%2 - one%2 })
		for _, dir := range moves {
			rest, _ := back.Cost(g.To(cell, dir))
			if cost.Add(rest, api.Cost{S: 1 - dir%2, D: dir % 2}) == left {
				cell = g.To(cell, dir)
				break
			}
		}
		v.way = append(v.way, cell)
	}
	return v
}

// checkPair: all that is told of two cells; false: it is wrong.
func checkPair(t *testing.T, g *grid.Grid, a, b int, want verdict) bool {
	t.Helper()
	near, e1 := Near(g, a, b)
	direct, e2 := Direct(g, a, b)
	way, e3 := Way(g, a, b)
	if near != want.near || e1 != nil {
		t.Errorf("Near(%d, %d) = %v, %v, want %v", a, b, near, e1, want.near)
	}
	if direct != want.direct || e2 != nil {
		t.Errorf("Direct(%d, %d) = %v, %v, want %v", a, b, direct, e2, want.direct)
	}
	var wantErr error
	if !want.near {
		wantErr = api.ErrNone
	}
	if !slices.Equal(way, want.way) || e3 != wantErr {
		t.Errorf("Way(%d, %d) = %v, %v, want %v, %v", a, b, way, e3, want.way, wantErr)
	}
	return !t.Failed()
}

// isDirect, isNear, isFar: two cells are so, and that is the way.
func isDirect(t *testing.T, g *grid.Grid, way ...int) {
	t.Helper()
	checkPair(t, g, way[0], way[len(way)-1], verdict{near: true, direct: true, way: way})
}

func isNear(t *testing.T, g *grid.Grid, way ...int) {
	t.Helper()
	checkPair(t, g, way[0], way[len(way)-1], verdict{near: true, way: way})
}

func isFar(t *testing.T, g *grid.Grid, a, b int) {
	t.Helper()
	checkPair(t, g, a, b, verdict{})
}

// checkWrong: all three tell one error, and nothing else.
func checkWrong(t *testing.T, g *grid.Grid, a, b int, want api.Errno) {
	t.Helper()
	if near, err := Near(g, a, b); near || err != error(want) {
		t.Errorf("Near(%d, %d) = %v, %v, want %v", a, b, near, err, want)
	}
	if direct, err := Direct(g, a, b); direct || err != error(want) {
		t.Errorf("Direct(%d, %d) = %v, %v, want %v", a, b, direct, err, want)
	}
	if way, err := Way(g, a, b); len(way) != 0 || err != error(want) {
		t.Errorf("Way(%d, %d) = %v, %v, want %v", a, b, way, err, want)
	}
}

// H1, H2, H3: on the document's map, by hand. Its corners are 0, 4, 14, 15 and 17.
func TestByHand(t *testing.T) {
	g := drawn(t, ".....", ".@@@.", ".@...", ".....")
	isDirect(t, g, 0, 1, 2, 3, 4)
	isDirect(t, g, 0, 5, 10, 15)
	isDirect(t, g, 4, 9, 14)
	isDirect(t, g, 15, 16, 17)
	isDirect(t, g, 17, 13, 14)
	isDirect(t, g, 14, 18, 17)
	isDirect(t, g, 12, 18, 19)
	isDirect(t, g, 2, 3, 4)
	isNear(t, g, 4, 9, 14, 19)
	isNear(t, g, 15, 16, 17, 18, 19)
	isFar(t, g, 10, 17)
	isFar(t, g, 10, 16)
	isFar(t, g, 0, 14)
	isFar(t, g, 0, 17)
	isFar(t, g, 4, 15)
	isFar(t, g, 5, 3)
}

// H1, H2, H3: a cell and itself, also if it is a corner, shut in, in the grid's corner, or all there is.
func TestItself(t *testing.T) {
	for _, g := range []*grid.Grid{
		drawn(t, "."), drawn(t, ".....", ".@@@.", ".@...", "....."), drawn(t, "@@@", "@.@", "@@@"), drawn(t, "@.@", "...", "@.@"),
	} {
		for cell := range g.Cells() {
			if isFree(g, cell) {
				isDirect(t, g, cell)
			} else {
				checkWrong(t, g, cell, cell, api.ErrBlocked)
			}
		}
	}
}

// H1, H3: on a free grid, in one row, in one column, on each diagonal, and neither, both ways round.
func TestFreeGrid(t *testing.T) {
	g := free(t, 6, 5)
	isDirect(t, g, 12, 13, 14, 15, 16, 17)
	isDirect(t, g, 16, 15, 14, 13)
	isDirect(t, g, 2, 8, 14, 20, 26)
	isDirect(t, g, 27, 21, 15, 9)
	isDirect(t, g, 0, 7, 14, 21, 28)
	isDirect(t, g, 28, 21, 14, 7, 0)
	isDirect(t, g, 5, 10, 15, 20, 25)
	isDirect(t, g, 25, 20, 15, 10, 5)
	// Diagonal steps come first, from whichever end.
	isDirect(t, g, 0, 7, 14, 15, 16, 17)
	isDirect(t, g, 17, 10, 3, 2, 1, 0)
	isDirect(t, g, 5, 10, 9, 8, 7, 6)
	isDirect(t, g, 6, 1, 2, 3, 4, 5)
	isDirect(t, g, 2, 9, 15, 21, 27)
	isDirect(t, g, 27, 20, 14, 8, 2)
	isDirect(t, g, 3, 8, 14, 20, 26)
	isDirect(t, g, 26, 21, 15, 9, 3)
	isDirect(t, g, 0, 1)
	isDirect(t, g, 0, 6)
	isDirect(t, g, 0, 7)
}

// H1: in one row, in one column, or on one diagonal there is just one such way, so one wall on it is enough, or one whose corner it would cut.
func TestWallOnALine(t *testing.T) {
	isFar(t, drawn(t, "...@.", "....."), 0, 4)
	isFar(t, drawn(t, "..", "@.", ".."), 0, 4)
	isFar(t, drawn(t, "...", ".@.", "..."), 0, 8)
	isFar(t, drawn(t, "...", ".@.", "..."), 8, 0)
	isFar(t, drawn(t, "...", ".@.", "..."), 2, 6)
	for _, wall := range []int{1, 3, 5, 7} {
		g := free(t, 3, 3)
		set(t, g, wall, true)
		isFar(t, g, 0, 8)
		isFar(t, g, 8, 0)
		isFar(t, g, 2, 6)
		isFar(t, g, 6, 2)
	}
	// Walls beside a row are not in its way, but make corners on it.
	isNear(t, drawn(t, ".....", "..@.."), 0, 1, 2, 3, 4)
	isDirect(t, drawn(t, "@@@@@", ".....", "@@@@@"), 5, 6, 7, 8, 9)
	isNear(t, drawn(t, "..@", "...", "@.."), 0, 4, 8)
}

// H1, H3: near by some ways alone: with a wall on the way that was told, another one is told that costs as much.
func TestSomeWaysAlone(t *testing.T) {
	g := free(t, 7, 5)
	isDirect(t, g, 8, 16, 24, 25, 26)
	set(t, g, 24, true)
	isNear(t, g, 8, 16, 17, 18, 26)
	set(t, g, 16, true)
	isNear(t, g, 8, 9, 10, 18, 26)
	// From the other end.
	isNear(t, g, 26, 18, 10, 9, 8)
	set(t, g, 18, true)
	isFar(t, g, 8, 26)
	isFar(t, g, 26, 8)
	set(t, g, 24, false)
	isFar(t, g, 8, 26)
	set(t, g, 16, false)
	isNear(t, g, 8, 16, 24, 25, 26)
}

// H1: not near though there is a way between them, or because there is none.
func TestNotNear(t *testing.T) {
	g := drawn(t, "...", "@@.", "...")
	isFar(t, g, 0, 6)
	isFar(t, g, 0, 7)
	isFar(t, g, 0, 8)
	isFar(t, g, 8, 0)
	isFar(t, g, 1, 5)
	isDirect(t, g, 0, 1, 2)
	isDirect(t, g, 2, 5, 8)
	set(t, g, 5, true)
	isFar(t, g, 0, 8)
	isFar(t, g, 2, 8)
	isFar(t, g, 6, 1)
	isFar(t, drawn(t, ".@", "@."), 0, 3)
	isFar(t, drawn(t, ".@", ".."), 0, 3)
	isFar(t, drawn(t, ".@."), 0, 2)
	// By one more step, or by two straight ones for a diagonal one, they aren't near either.
	isFar(t, drawn(t, "..", "@.", ".."), 0, 4)
	isFar(t, drawn(t, "..@", "...", "..."), 1, 5)
}

// H2: a corner on all ways, on some, on none; the ends may be corners.
func TestCornersBetween(t *testing.T) {
	// 8 is a corner on a way that is not the one that is told.
	g := drawn(t, "....@", ".....", ".....")
	isNear(t, g, 0, 6, 12, 13, 14)
	isNear(t, g, 14, 8, 2, 1, 0)
	// Without the wall it is none.
	set(t, g, 4, false)
	isDirect(t, g, 0, 6, 12, 13, 14)
	// A corner lies beside, on no such way.
	g = drawn(t, "@....", ".....", ".....", ".....")
	isDirect(t, g, 1, 7, 13)
	isDirect(t, g, 10, 11, 12)
	isNear(t, g, 5, 6, 7)
	isNear(t, g, 1, 6, 11)
	isDirect(t, g, 6, 12, 18)
	isDirect(t, g, 18, 12, 6)
	// Both ends are corners.
	g = drawn(t, "@...@", ".....", ".....")
	isDirect(t, g, 6, 7, 8)
	isNear(t, g, 5, 6, 7, 8)
	isNear(t, g, 6, 7, 8, 9)
	isNear(t, g, 5, 6, 7, 8, 9)
}

// H3: the first step is not diagonal where no such way has a diagonal step there: it is blocked, or would cut a corner, or leads nowhere.
func TestFirstStepNotDiagonal(t *testing.T) {
	isNear(t, drawn(t, "...", "@.."), 0, 1, 5)
	isNear(t, drawn(t, "....", "@..."), 0, 1, 6, 7)
	isDirect(t, drawn(t, "@@..", "....", "...."), 4, 9, 10)
	// One may go diagonally, but from there not on.
	isNear(t, drawn(t, ".....", "..@.."), 0, 1, 2, 3, 9)
	isNear(t, drawn(t, "......", "..@...", "......"), 0, 1, 2, 3, 10, 17)
	// The first step is diagonal, a later one isn't, one after it is.
	isNear(t, drawn(t, ".....", ".....", "..@.."), 0, 6, 7, 8, 14)
}

// H1, Z1, Z3: what is no cell, or not free: a's is told first, whatever is wrong with b.
func TestWrongCells(t *testing.T) {
	g := drawn(t, "..@", "@..")
	before := *g
	for _, none := range append([]int{6, 7}, wild...) {
		checkWrong(t, g, none, 0, api.ErrBound)
		checkWrong(t, g, 0, none, api.ErrBound)
		checkWrong(t, g, none, none, api.ErrBound)
		checkWrong(t, g, none, 2, api.ErrBound)
		checkWrong(t, g, 2, none, api.ErrBlocked)
		checkWrong(t, g, none, 6, api.ErrBound)
	}
	for _, wall := range []int{2, 3} {
		checkWrong(t, g, wall, 0, api.ErrBlocked)
		checkWrong(t, g, 0, wall, api.ErrBlocked)
		checkWrong(t, g, wall, wall, api.ErrBlocked)
		checkWrong(t, g, wall, 5-wall, api.ErrBlocked)
	}
	if *g != before {
		t.Error("errors changed the grid")
	}
	for _, cell := range wild {
		checkWrong(t, drawn(t, "."), cell, 0, api.ErrBound)
		checkWrong(t, drawn(t, "@"), cell, 0, api.ErrBound)
		checkWrong(t, drawn(t, "@"), 0, cell, api.ErrBlocked)
	}
	checkWrong(t, drawn(t, "."), 0, 1, api.ErrBound)
	checkWrong(t, drawn(t, "@"), 0, 0, api.ErrBlocked)
	// A wall between is no error of Near or Direct; of Way it is.
	isFar(t, g, 0, 5)
}

// H1, H2, H3: all ways in which the nine cells of a grid may be blocked, and all pairs, against going all ways.
func TestAllOfNineCells(t *testing.T) {
	for walls := range 1 << 9 {
		g := free(t, 3, 3)
		for cell := range 9 {
			if walls>>cell&1 == 1 {
				set(t, g, cell, true)
			}
		}
		if !checkPairs(t, g, judgeByHand) {
			t.Fatalf("walls %b", walls)
		}
	}
}

// checkPairs of free cells of a grid against a judge.
func checkPairs(t *testing.T, g *grid.Grid, judge func(*grid.Grid, int, int) verdict) bool {
	t.Helper()
	for a := range g.Cells() {
		for b := range g.Cells() {
			if isFree(g, a) && isFree(g, b) && !checkPair(t, g, a, b, judge(g, a, b)) {
				return false
			}
		}
	}
	return true
}

// H1, H2, H3: drawn small grids against going all ways, and both judges against each other.
func TestDrawnSmall(t *testing.T) {
	d := die(81)
	for range 60 {
		g := plotOf(t, &d, 5)
		if !checkPairs(t, g, judgeByHand) || !checkPairs(t, g, judgeByFloods) {
			return
		}
	}
}

// H1, H2, H3: drawn grids up to the greatest against floods from both ends.
func TestDrawn(t *testing.T) {
	d := die(82)
	for range 150 {
		g := plotOf(t, &d, api.MaxSide)
		for range 60 {
			a, b := d.n(g.Cells()), d.n(g.Cells())
			if isFree(g, a) && isFree(g, b) && !checkPair(t, g, a, b, judgeByFloods(g, a, b)) {
				return
			}
		}
	}
}

// H1, H2, H3: the greatest grid, free: all are directly near; with a wall along its middle: those on one side.
func TestGreatestGrid(t *testing.T) {
	const side = api.MaxSide
	g := free(t, side, side)
	for _, a := range []int{0, 15, 100, 136, 240, 255} {
		for b := range api.MaxCells {
			if direct, err := Direct(g, a, b); !direct || err != nil {
				t.Errorf("Direct(%d, %d) = %v, %v", a, b, direct, err)
			}
			way, err := Way(g, a, b)
			if sum, e := flood.Walk(g, way); err != nil || e != nil || sum != octile(g, a, b) || way[0] != a || way[len(way)-1] != b {
				t.Errorf("Way(%d, %d) = %v, %v", a, b, way, err)
			}
		}
	}
	diagonal := make([]int, side)
	for i := range diagonal {
		diagonal[i] = i * (side + 1)
	}
	isDirect(t, g, diagonal...)
	for x := range side {
		set(t, g, 8*side+x, true)
	}
	isFar(t, g, 0, 255)
	isFar(t, g, 7*side, 9*side)
	isDirect(t, g, append(slices.Clone(diagonal[:8]), 7*side+8, 7*side+9, 7*side+10, 7*side+11, 7*side+12, 7*side+13, 7*side+14, 7*side+15)...)
}

// H1, W2: answers are those of the grid as it is: a wall that is set and set back leaves all as it was.
func TestGridThatChanges(t *testing.T) {
	g := free(t, 5, 3)
	isDirect(t, g, 5, 6, 7, 8, 9)
	for cell := range g.Cells() {
		set(t, g, cell, true)
		checkPairs(t, g, judgeByFloods)
		set(t, g, cell, false)
		isDirect(t, g, 5, 6, 7, 8, 9)
	}
}

// W4, W5: what is near there is near back; turned and mirrored, and with a wall all round, grids have the same ways.
func TestTurnedAndMirrored(t *testing.T) {
	d := die(83)
	for range 30 {
		g := plotOf(t, &d, 9)
		w, h := g.Size()
		turn := func(cell int) int { return cell%w*h + h - 1 - cell/w }
		mirror := func(cell int) int { return cell/w*w + w - 1 - cell%w }
		wallIn := func(cell int) int { return (cell/w+1)*(w+2) + cell%w + 1 }
		turned, mirrored, walledIn := free(t, h, w), free(t, w, h), free(t, w+2, h+2)
		for cell := range walledIn.Cells() {
			if x, y := cell%(w+2), cell/(w+2); x == 0 || x == w+1 || y == 0 || y == h+1 {
				set(t, walledIn, cell, true)
			}
		}
		for cell := range g.Cells() {
			if !isFree(g, cell) {
				set(t, turned, turn(cell), true)
				set(t, mirrored, mirror(cell), true)
				set(t, walledIn, wallIn(cell), true)
			}
		}
		for range 60 {
			a, b := d.n(g.Cells()), d.n(g.Cells())
			if !isFree(g, a) || !isFree(g, b) {
				continue
			}
			checkMoved(t, g, a, b, turned, turn)
			checkMoved(t, g, a, b, mirrored, mirror)
			checkMoved(t, g, a, b, walledIn, wallIn)
			near, _ := Near(g, a, b)
			direct, _ := Direct(g, a, b)
			nearBack, _ := Near(g, b, a)
			directBack, _ := Direct(g, b, a)
			if near != nearBack || direct != directBack {
				t.Errorf("there %v, %v, back %v, %v", near, direct, nearBack, directBack)
			}
		}
	}
}

// checkMoved: in another grid, in which cells lie elsewhere, the same is told.
func checkMoved(t *testing.T, g *grid.Grid, a, b int, other *grid.Grid, move func(int) int) {
	t.Helper()
	near, _ := Near(g, a, b)
	direct, _ := Direct(g, a, b)
	way, _ := Way(g, a, b)
	for i := range way {
		way[i] = move(way[i])
	}
	checkPair(t, other, move(a), move(b), verdict{near, direct, way})
}

// W3: corners are enough: over cells that are directly near, corner by corner, it is as far as over all cells.
func TestCornersAreEnough(t *testing.T) {
	d := die(84)
	for range 25 {
		g := plotOf(t, &d, 9)
		a := d.n(g.Cells())
		if !isFree(g, a) {
			continue
		}
		far, err := flood.From(g, a)
		if err != nil {
			t.Fatal(err)
		}
		for b, got := range overCorners(g, a) {
			want, err := far.Cost(b)
			if (err == nil) != (got != nil) || got != nil && *got != want {
				t.Errorf("from %d to %d: over corners %v, over cells %v, %v", a, b, got, want, err)
			}
		}
	}
}

// overCorners: how far it is from a cell to each, by looking again and again at which ones are directly near; nil: it can't be come to.
func overCorners(g *grid.Grid, a int) []*api.Cost {
	far := make([]*api.Cost, g.Cells())
	far[a] = &api.Cost{}
	nodes := append(corner.All(g), a)
	for changed := true; changed; {
		changed = false
		for _, n := range nodes {
			for to := range g.Cells() {
				if direct, _ := Direct(g, n, to); !direct || far[n] == nil {
					continue
				}
				via := cost.Add(*far[n], octile(g, n, to))
				if far[to] == nil || cost.Less(via, *far[to]) {
					far[to], changed = &via, true
				}
			}
		}
	}
	return far
}

// W4, Z2: asks change nothing, may come all at once, and each way is the caller's.
func TestAsksChangeNothing(t *testing.T) {
	g := drawn(t, ".....", ".@@@.", ".@...", ".....")
	before := *g
	one, _ := Way(g, 0, 4)
	other, _ := Way(g, 0, 4)
	for i := range one {
		one[i] = -1
	}
	_ = append(one[:1], -2)
	if !slices.Equal(other, []int{0, 1, 2, 3, 4}) {
		t.Errorf("two ways share memory: %v", other)
	}
	var all sync.WaitGroup
	for range 4 {
		all.Go(func() { checkPairs(t, g, judgeByFloods) })
	}
	all.Wait()
	if *g != before {
		t.Error("asks changed the grid")
	}
}
