package nav

import (
	"fmt"
	"math"
	"slices"
	"sync"
	"testing"

	"fellrunner/api"
	"fellrunner/corner"
	"fellrunner/cost"
	"fellrunner/flood"
	"fellrunner/graph"
	"fellrunner/grid"
	"fellrunner/reach"
	"fellrunner/text"
)

// ring: the document's map, whose corners stand round its walls: 0, 4, 14, 17, 15, and 0 again.
func ring(t *testing.T, most int) *Service {
	t.Helper()
	return drawn(t, most, ".....", ".@@@.", ".@...", ".....")
}

// M3: by hand, however many levels there may be: near, past one corner, past several; from a corner, to one, and between two.
func TestAskByHand(t *testing.T) {
	for most := 1; most <= api.MaxLevel; most++ {
		x := ring(t, most)
		checkWay(t, x, 0, 4, api.Cost{S: 4}, 0, 1, 2, 3, 4)
		checkCost(t, x, 14, 17, api.Cost{S: 1, D: 1})
		checkWay(t, x, 5, 3, api.Cost{S: 4}, 5, 0, 1, 2, 3)
		checkWay(t, x, 3, 5, api.Cost{S: 4}, 3, 2, 1, 0, 5)
		checkWay(t, x, 1, 15, api.Cost{S: 4}, 1, 0, 5, 10, 15)
		checkWay(t, x, 0, 14, api.Cost{S: 6}, 0, 1, 2, 3, 4, 9, 14)
		checkWay(t, x, 16, 1, api.Cost{S: 5}, 16, 15, 10, 5, 0, 1)
		checkWay(t, x, 12, 3, api.Cost{S: 5}, 12, 13, 14, 9, 4, 3)
		checkCost(t, x, 10, 9, api.Cost{S: 5, D: 1})
		checkCost(t, x, 4, 15, api.Cost{S: 5, D: 1})
		checkCost(t, x, 9, 10, api.Cost{S: 5, D: 1})
		checkCost(t, x, 19, 1, api.Cost{S: 6})
	}
}

// M3: from a cell to itself: the way is that cell, for nothing, whether it is a corner or not.
func TestAskSameCell(t *testing.T) {
	for _, x := range []*Service{ring(t, 1), ring(t, 3), free(t, 1, 1, 1), drawn(t, 6, ".@", "@."), free(t, api.MaxSide, api.MaxSide, 6)} {
		for _, cell := range freeCells(gridOf(t, x)) {
			checkWay(t, x, cell, cell, api.Cost{}, cell)
		}
	}
}

// M3, Z1, Z3: from and to no cell, or blocked, either or both: which error is told, and all else zero.
func TestAskWrong(t *testing.T) {
	for _, x := range []*Service{ring(t, 1), ring(t, 6)} {
		for _, none := range append([]int{20, 21}, wild...) {
			for _, to := range []int{0, 6, 11, 14, -1, 20, math.MaxInt} {
				checkErr(t, x, none, to, api.ErrBound)
			}
			checkErr(t, x, 0, none, api.ErrBound)
			checkErr(t, x, 13, none, api.ErrBound)
			// from's error is told whole ahead of to's.
			checkErr(t, x, 6, none, api.ErrBlocked)
			checkErr(t, x, 11, none, api.ErrBlocked)
		}
		for _, wall := range []int{6, 7, 8, 11} {
			for _, to := range []int{0, 6, 7, 11, 19} {
				checkErr(t, x, wall, to, api.ErrBlocked)
			}
			checkErr(t, x, 0, wall, api.ErrBlocked)
			checkErr(t, x, 19, wall, api.ErrBlocked)
		}
	}
	checkErr(t, drawn(t, 1, "@"), 0, 0, api.ErrBlocked)
	checkErr(t, drawn(t, 1, "@"), 0, 1, api.ErrBlocked)
	checkErr(t, drawn(t, 1, "@"), 1, 0, api.ErrBound)
}

// M3: a cell that is blocked may not be asked for, and one that is freed may.
func TestAskBehindEdits(t *testing.T) {
	x := free(t, 5, 3, 3)
	checkCost(t, x, 5, 9, api.Cost{S: 4})
	edit(t, x, set(true, 7), 1)
	checkCost(t, x, 5, 9, api.Cost{S: 2, D: 2})
	checkErr(t, x, 5, 7, api.ErrBlocked)
	edit(t, x, set(true, 2), 1)
	checkWay(t, x, 5, 9, api.Cost{S: 2, D: 2}, 5, 11, 12, 13, 9)
	edit(t, x, set(true, 12), 1)
	checkErr(t, x, 5, 9, api.ErrNone)
	edit(t, x, set(false, 7), 1)
	checkWay(t, x, 5, 9, api.Cost{S: 4}, 5, 6, 7, 8, 9)
}

// M3, W1: cells that walls cut apart: there is no way, either way; a corner may not be cut, so diagonal walls are enough.
func TestCutApart(t *testing.T) {
	for most := 1; most <= api.MaxLevel; most++ {
		checkErr(t, drawn(t, most, ".@."), 0, 2, api.ErrNone)
		checkErr(t, drawn(t, most, ".", "@", "."), 2, 0, api.ErrNone)
		checkErr(t, drawn(t, most, ".@", "@."), 0, 3, api.ErrNone)
		checkErr(t, drawn(t, most, ".@", "@."), 3, 0, api.ErrNone)
		x := drawn(t, most, "....@", "...@.", "..@..", ".@...", "@....")
		checkErr(t, x, 3, 9, api.ErrNone)
		checkErr(t, x, 24, 0, api.ErrNone)
		checkCost(t, x, 0, 15, api.Cost{S: 3})
		// Both sides have corners.
		x = drawn(t, most, "...@...", ".@.@.@.", "...@...")
		checkErr(t, x, 0, 4, api.ErrNone)
		checkErr(t, x, 11, 9, api.ErrNone)
		checkErr(t, x, 20, 14, api.ErrNone)
		checkCost(t, x, 4, 20, api.Cost{S: 4})
		checkAsks(t, x, freeCells(gridOf(t, x)))
	}
}

// kinds: how often asks were of a kind.
type kinds struct{ same, direct, near, one, several, none, from, to, both int }

// note of which kind an ask is: the cells, if they are near, or which corners its way passes.
func (k *kinds) note(g *grid.Grid, from, to int, a api.Answer) {
	near, _ := reach.Near(g, from, to)
	direct, _ := reach.Direct(g, from, to)
	isFrom, _ := corner.Is(g, from)
	isTo, _ := corner.Is(g, to)
	passed := 0
	for _, cell := range a.Way {
		if is, _ := corner.Is(g, cell); is && cell != from && cell != to {
			passed++
		}
	}
	switch {
	case a.Err != 0:
		k.none++
	case from == to:
		k.same++
	case direct:
		k.direct++
	case near:
		k.near++
	case isFrom && isTo:
		k.both++
	case isFrom:
		k.from++
	case isTo:
		k.to++
	case passed == 1:
		k.one++
	default:
		k.several++
	}
}

// W1, M3: drawn grids, all cells: each answer is a way that costs what is told, and none costs less; asks of each kind come about.
func TestAskDrawn(t *testing.T) {
	var k kinds
	d := die(41)
	for i := range 60 {
		g := plotOf(t, &d, 11)
		x := loaded(t, text.Print(g), 1+i%api.MaxLevel)
		floods := map[int]*flood.Flood{}
		for from := -1; from <= g.Cells(); from++ {
			for range 20 {
				to := d.n(g.Cells()+2) - 1
				a := x.Ask(from, to)
				if !checkAnswer(t, g, floods, from, to, a) {
					return
				}
				k.note(g, from, to, a)
			}
		}
	}
	for _, n := range []int{k.same, k.direct, k.near, k.one, k.several, k.none, k.from, k.to, k.both} {
		if n < 50 {
			t.Errorf("not all came about: %+v", k)
		}
	}
}

// W1: great grids, behind edits.
func TestAskGreat(t *testing.T) {
	d := die(42)
	for most := 1; most <= api.MaxLevel; most++ {
		for walls := 4; walls < 150; walls += walls / 2 {
			x := free(t, api.MaxSide-d.n(2), api.MaxSide-d.n(2), most)
			g := gridOf(t, x)
			for range (walls + 9) / 10 {
				var l []api.Edit
				for range 10 {
					l = append(l, api.Edit{Cell: d.n(g.Cells()), Blocked: d.n(8) > 0})
				}
				edit(t, x, l, editGrid(t, g, l))
			}
			floods := map[int]*flood.Flood{}
			cells := freeCells(g)
			for range 40 {
				from, to := cells[d.n(len(cells))], cells[d.n(len(cells))]
				if !checkAnswer(t, g, floods, from, to, x.Ask(from, to)) {
					return
				}
			}
		}
	}
}

// W1: the greatest grid with the longest way: walls in each second row, with a gap at one end and the other in turn.
func TestLongWay(t *testing.T) {
	g := freeGrid(t, api.MaxSide, api.MaxSide)
	for cell := range g.Cells() {
		x, y := cell%api.MaxSide, cell/api.MaxSide
		if y%2 == 1 && x != y/2%2*(api.MaxSide-1) {
			_, _ = g.Set(cell, true)
		}
	}
	for most := 1; most <= api.MaxLevel; most++ {
		x := loaded(t, text.Print(g), most)
		// Seven rows are gone whole, with two steps down behind each; then one more, and one step down.
		checkCost(t, x, 15, 14*16, api.Cost{S: 7 * 17})
		checkCost(t, x, 15, 15*16+15, api.Cost{S: 7*17 + 16})
		checkCost(t, x, 15*16+15, 15, api.Cost{S: 7*17 + 16})
		if a := x.Ask(15, 15*16+15); len(a.Way) != 7*17+17 {
			t.Errorf("%d cells: %v", len(a.Way), a)
		}
		checkAsks(t, x, []int{0, 15, 32, 47, 14 * 16, 14*16 + 15, 15*16 + 15})
	}
}

// W1: all walls of 3 x 3 cells, all pairs, with each number of levels in turn.
func TestAllOfNineCells(t *testing.T) {
	for walls := range 1 << 9 {
		g := freeGrid(t, 3, 3)
		for cell := range 9 {
			_, _ = g.Set(cell, walls>>cell&1 == 1)
		}
		checkAsks(t, loaded(t, text.Print(g), 1+walls%api.MaxLevel), []int{-1, 0, 1, 2, 3, 4, 5, 6, 7, 8, 9})
		if t.Failed() {
			return
		}
	}
}

// W1, W2: all walls of 4 x 3 cells, one after the other, each by one edit of one service; some pairs.
func TestAllOfTwelveCells(t *testing.T) {
	x, g, d := free(t, 4, 3, 3), freeGrid(t, 4, 3), die(43)
	for i := 1; i < 1<<12; i++ {
		// The lowest bit of i tells which cell: so each set of walls comes just once.
		cell := 0
		for i>>cell&1 == 0 {
			cell++
		}
		l := []api.Edit{{Cell: cell, Blocked: isFree(g, cell)}}
		edit(t, x, l, editGrid(t, g, l))
		floods := map[int]*flood.Flood{}
		for range 12 {
			from, to := d.n(12), d.n(12)
			if !checkAnswer(t, g, floods, from, to, x.Ask(from, to)) {
				return
			}
		}
	}
}

// W1: each part of a way is as short as can be, too.
func TestParts(t *testing.T) {
	d := die(44)
	for i := range 60 {
		g := plotOf(t, &d, 12)
		x := loaded(t, text.Print(g), 1+i%api.MaxLevel)
		a := x.Ask(d.n(g.Cells()), d.n(g.Cells()))
		for first := range a.Way {
			from, err := flood.From(g, a.Way[first])
			if err != nil {
				t.Fatal(err)
			}
			for last := first; last < len(a.Way); last++ {
				walked, _ := flood.Walk(g, a.Way[first:last+1])
				if c, err := from.Cost(a.Way[last]); c != walked || err != nil {
					t.Errorf("of %v the part from %d to %d costs %v, want %v, %v", a.Way, a.Way[first], a.Way[last], walked, c, err)
				}
			}
		}
	}
}

// W3: the same cost, or error, however many levels there may be.
func TestAnyLevels(t *testing.T) {
	d := die(45)
	grids := []*grid.Grid{pillars(t)}
	for range 40 {
		grids = append(grids, plotOf(t, &d, api.MaxSide))
	}
	for _, g := range grids {
		var cells []int
		for range 8 {
			cells = append(cells, d.n(g.Cells()+1))
		}
		want := costsOf(askAll(loaded(t, text.Print(g), 1), cells))
		for most := 2; most <= api.MaxLevel; most++ {
			if !checkSame(t, costsOf(askAll(loaded(t, text.Print(g), most), cells)), want) {
				t.Fatalf("most %d, cells %v, in\n%s", most, cells, text.Print(g))
			}
		}
	}
}

// W4: back it is as far as there; by a third cell never nearer.
func TestBackAndByAThird(t *testing.T) {
	d := die(46)
	for i := range 80 {
		g := plotOf(t, &d, 12)
		x := loaded(t, text.Print(g), 1+i%api.MaxLevel)
		cells := freeCells(g)
		if len(cells) == 0 {
			continue
		}
		for range 12 {
			a, b, c := cells[d.n(len(cells))], cells[d.n(len(cells))], cells[d.n(len(cells))]
			there, back := x.Ask(a, b), x.Ask(b, a)
			if there.C != back.C || there.Err != back.Err {
				t.Errorf("from %d to %d: %v, back: %v", a, b, there, back)
			}
			first, second := x.Ask(a, c), x.Ask(c, b)
			if first.Err == 0 && second.Err == 0 && lessOf(api.Answer{C: cost.Add(first.C, second.C)}, there) {
				t.Errorf("from %d to %d: %v, by %d: %v and %v", a, b, there, c, first, second)
			}
		}
	}
}

// W5: a wall more makes no way shorter; freed, none longer.
func TestAWallMore(t *testing.T) {
	d := die(47)
	for i := range 60 {
		g := plotOf(t, &d, 10)
		x := loaded(t, text.Print(g), 1+i%api.MaxLevel)
		cells := freeCells(g)
		if len(cells) < 3 {
			continue
		}
		for range 5 {
			wall := cells[d.n(len(cells))]
			others := slices.DeleteFunc(someOf(&d, cells, 6), func(cell int) bool { return cell == wall })
			before := askAll(x, others)
			edit(t, x, set(true, wall), 1)
			for i, a := range askAll(x, others) {
				if lessOf(a, before[i]) {
					t.Fatalf("%v was %v without a wall at %d", a, before[i], wall)
				}
			}
			edit(t, x, set(false, wall), 1)
		}
	}
}

// someOf a list, drawn, at times one several times.
func someOf(d *die, l []int, many int) []int {
	var some []int
	for range many {
		some = append(some, l[d.n(len(l))])
	}
	return some
}

// W5: a wall beside a way that was told, on which it is not, nor at a corner that would be cut, makes it none longer.
func TestAWallBeside(t *testing.T) {
	d := die(48)
	told := 0
	for i := range 60 {
		g := plotOf(t, &d, 9)
		x := loaded(t, text.Print(g), 1+i%api.MaxLevel)
		from, to := d.n(g.Cells()), d.n(g.Cells())
		a := x.Ask(from, to)
		if a.Err != 0 {
			continue
		}
		for _, wall := range freeCells(g) {
			walled := g.Copy()
			_, _ = walled.Set(wall, true)
			if _, err := flood.Walk(walled, a.Way); err != nil {
				continue
			}
			told++
			edit(t, x, set(true, wall), 1)
			if b := x.Ask(from, to); b.C != a.C || b.Err != 0 {
				t.Errorf("from %d to %d: %v, with a wall beside it, at %d: %v", from, to, a, wall, b)
			}
			edit(t, x, set(false, wall), 1)
		}
	}
	if told < 300 {
		t.Errorf("only %d walls were beside a way", told)
	}
}

// W5: turned, mirrored, or with a wall all round, each way costs the same.
func TestTurnedMirroredWalled(t *testing.T) {
	d := die(49)
	for i := range 25 {
		g, most := plotOf(t, &d, api.MaxSide-2), 1+i%api.MaxLevel
		w, h := g.Size()
		cells := []int{0, g.Cells() - 1}
		for range 8 {
			cells = append(cells, d.n(g.Cells()))
		}
		want := costsOf(askAll(loaded(t, text.Print(g), most), cells))
		for _, m := range []struct {
			w, h int
			to   func(x, y int) (int, int)
		}{
			{h, w, func(x, y int) (int, int) { return h - 1 - y, x }},
			{w, h, func(x, y int) (int, int) { return w - 1 - x, h - 1 - y }},
			{h, w, func(x, y int) (int, int) { return y, w - 1 - x }},
			{w, h, func(x, y int) (int, int) { return w - 1 - x, y }},
			{w, h, func(x, y int) (int, int) { return x, h - 1 - y }},
			{h, w, func(x, y int) (int, int) { return y, x }},
			{w + 2, h + 2, func(x, y int) (int, int) { return x + 1, y + 1 }},
		} {
			other, place := moved(t, g, m.w, m.h, most, m.to)
			var places []int
			for _, cell := range cells {
				places = append(places, place(cell))
			}
			if !checkSame(t, costsOf(askAll(other, places)), want) {
				t.Fatalf("cells %v, places %v, in\n%s%s", cells, places, text.Print(g), other.Save())
			}
		}
	}
}

// M3: a batch of none, of one, of MaxBatch, and of one more.
func TestBatch(t *testing.T) {
	x := ring(t, 3)
	for _, none := range [][]api.Ask{nil, {}} {
		if l, err := x.Batch(none); len(l) != 0 || err != nil {
			t.Errorf("Batch of none = %v, %v", l, err)
		}
	}
	d := die(50)
	var asks []api.Ask
	for range api.MaxBatch {
		asks = append(asks, api.Ask{From: d.n(22) - 1, To: d.n(22) - 1})
	}
	for n := range api.MaxBatch + 1 {
		got, err := x.Batch(asks[:n])
		if err != nil {
			t.Fatalf("Batch of %d: %v", n, err)
		}
		var want []api.Answer
		for _, a := range asks[:n] {
			want = append(want, x.Ask(a.From, a.To))
		}
		checkSame(t, got, want)
	}
	before := told(x)
	for _, many := range [][]api.Ask{append(asks, api.Ask{From: 0, To: 4}), append(slices.Clone(asks), api.Ask{From: -1, To: -1}), make([]api.Ask, api.MaxBatch+1), make([]api.Ask, 5000)} {
		if l, err := x.Batch(many); len(l) != 0 || err != error(api.ErrMany) {
			t.Errorf("Batch of %d = %v, %v, want ErrMany", len(many), l, err)
		}
	}
	checkTold(t, x, before)
}

// M3: in a batch each error stands in its own answer, and tells nothing of the others.
func TestBatchErrors(t *testing.T) {
	x := drawn(t, 2, "..@..", ".@@..", "..@..")
	got, err := x.Batch([]api.Ask{{From: -1, To: 0}, {From: 0, To: 5}, {From: 2, To: 0}, {From: 0, To: 4}, {From: 11, To: 1}, {From: 0, To: 99}, {From: 0, To: 7}, {From: 3, To: 14}})
	if err != nil {
		t.Fatal(err)
	}
	checkSame(t, got, []api.Answer{{Err: api.ErrBound}, {Way: []int{0, 5}, C: api.Cost{S: 1}}, {Err: api.ErrBlocked}, {Err: api.ErrNone}, {Way: []int{11, 10, 5, 0, 1}, C: api.Cost{S: 4}}, {Err: api.ErrBound}, {Err: api.ErrBlocked}, x.Ask(3, 14)})
	checkCost(t, x, 3, 14, api.Cost{S: 1, D: 1})
}

// W4: asks change nothing: of what is told, and of what is saved.
func TestAsksChangeNothing(t *testing.T) {
	d := die(51)
	for range 8 {
		g := plotOf(t, &d, 8)
		x := loaded(t, text.Print(g), 3)
		before := told(x)
		checkTold(t, x, before)
		_, _ = x.Batch(make([]api.Ask, api.MaxBatch))
		checkTold(t, x, before)
		if x.Save() != text.Print(g) {
			t.Errorf("Save() = %q, was %q", x.Save(), text.Print(g))
		}
	}
}

// W4, Z2: asked again, in another order, in batches, or all at once, each is answered the same, way and all.
func TestAnyOrder(t *testing.T) {
	d := die(52)
	for _, g := range []*grid.Grid{pillars(t), plotOf(t, &d, api.MaxSide), plotOf(t, &d, api.MaxSide)} {
		x := loaded(t, text.Print(g), 4)
		var asks []api.Ask
		for range api.MaxBatch {
			asks = append(asks, api.Ask{From: d.n(g.Cells()), To: d.n(g.Cells())})
		}
		var want []api.Answer
		for _, a := range asks {
			want = append(want, x.Ask(a.From, a.To))
		}
		for i := len(asks) - 1; i >= 0; i-- {
			if got := x.Ask(asks[i].From, asks[i].To); !same(got, want[i]) {
				t.Errorf("the other way round %v: %v, want %v", asks[i], got, want[i])
			}
		}
		got := make([][]api.Answer, 8)
		var all sync.WaitGroup
		for i := range got {
			all.Go(func() {
				if i%2 == 0 {
					got[i], _ = x.Batch(asks)
					return
				}
				for _, a := range asks {
					got[i] = append(got[i], x.Ask(a.From, a.To))
				}
			})
		}
		all.Wait()
		for _, l := range got {
			checkSame(t, l, want)
		}
	}
}

// M3: an answer hangs on the grid, on how many levels there may be, and on both cells alone: not on how the grid came about.
func TestHangsOnTheGrid(t *testing.T) {
	d := die(53)
	for i := range 20 {
		most := 1 + i%api.MaxLevel
		g := plotOf(t, &d, 12)
		w, h := g.Size()
		cells := someOf(&d, append(freeCells(g), 0), 12)
		want := askAll(loaded(t, text.Print(g), most), cells)
		x := free(t, w, h, most)
		var walls []int
		for cell := range g.Cells() {
			if !isFree(g, cell) {
				walls = append(walls, cell)
			}
		}
		slices.Reverse(walls)
		for part := range slices.Chunk(walls, api.MaxEdits) {
			edit(t, x, set(true, part...), len(part))
		}
		checkSame(t, askAll(x, cells), want)
		// From all walls on.
		for cell := range g.Cells() {
			edit(t, x, set(true, cell), boolToInt(isFree(g, cell)))
		}
		for part := range slices.Chunk(freeCells(g), api.MaxEdits) {
			edit(t, x, set(false, part...), len(part))
		}
		checkSame(t, askAll(x, cells), want)
	}
}

func boolToInt(b bool) int {
	if b {
		return 1
	}
	return 0
}

// Z2: lists that were given out are the caller's: changed, and behind their end, they change no later answer, nor one another.
func TestGivenOut(t *testing.T) {
	for _, x := range []*Service{ring(t, 3), loaded(t, text.Print(pillars(t)), 4), free(t, 7, 7, 1)} {
		cells := freeCells(gridOf(t, x))
		cells = []int{cells[0], cells[1], cells[len(cells)/2], cells[len(cells)-1]}
		want, other := askAll(x, cells), askAll(x, cells)
		var asks []api.Ask
		for _, from := range cells {
			for _, to := range cells {
				asks = append(asks, api.Ask{From: from, To: to}, api.Ask{From: from, To: to})
			}
		}
		batch, err := x.Batch(asks)
		if err != nil {
			t.Fatal(err)
		}
		for i, a := range other {
			scribble(a.Way)
			scribble(batch[2*i].Way)
			if !same(batch[2*i+1], want[i]) {
				t.Errorf("%v: an answer of the batch changed with another one: %v, want %v", asks[2*i], batch[2*i+1], want[i])
			}
		}
		checkSame(t, askAll(x, cells), want)
		again, _ := x.Batch(asks)
		for i := range want {
			if !same(again[2*i], want[i]) || !same(again[2*i+1], want[i]) {
				t.Errorf("%v: again %v, %v, want %v", asks[2*i], again[2*i], again[2*i+1], want[i])
			}
		}
	}
}

// scribble over a list, and what stands behind it.
func scribble(l []int) {
	l = l[:cap(l)]
	for i := range l {
		l[i] = -7
	}
}

// Z2: lists that are handed in aren't written into, nor kept, nor is what stands behind them read.
func TestHandedIn(t *testing.T) {
	x := ring(t, 3)
	asks := []api.Ask{{From: 0, To: 14}, {From: 10, To: 9}, {From: -1, To: 0}, {From: 5, To: 3}}
	asksWas := slices.Clone(asks)
	got, err := x.Batch(asks[:2])
	if len(got) != 2 || err != nil || !slices.Equal(asks, asksWas) {
		t.Errorf("Batch = %v, %v, asks %v, were %v", got, err, asks, asksWas)
	}
	was := fmt.Sprint(got)
	for i := range asks {
		asks[i] = api.Ask{From: 1, To: 2}
	}
	if is := fmt.Sprint(got); is != was {
		t.Errorf("answers were %s, are %s", was, is)
	}
	edits := []api.Edit{{Cell: 10, Blocked: true}, {Cell: 8}, {Cell: -1}, {Cell: 0, Blocked: true}}
	editsWas := slices.Clone(edits)
	edit(t, x, edits[:2], 2)
	if !slices.Equal(edits, editsWas) {
		t.Errorf("edits %v, were %v", edits, editsWas)
	}
	before := told(x)
	for i := range edits {
		edits[i] = api.Edit{Cell: 19, Blocked: true}
	}
	checkTold(t, x, before)
	if got := x.Save(); got != mapOf(".....", ".@@..", "@@...", ".....") {
		t.Errorf("Save() = %q", got)
	}
}

// M3: what was answered stays as it was when the grid changes.
func TestAnsweredStays(t *testing.T) {
	x := ring(t, 3)
	cells := []int{0, 4, 10, 13, 15, 19}
	got := askAll(x, cells)
	was := fmt.Sprint(got)
	edit(t, x, set(true, 2, 16, 14), 3)
	edit(t, x, set(false, 7, 11), 2)
	_ = askAll(x, cells)
	if is := fmt.Sprint(got); is != was {
		t.Errorf("answers were %s, are %s", was, is)
	}
}

// L1: the guess by which a search is led may be one: never more than what is left, nor than an edge and the guess from where it leads; and it is more than nothing.
func TestGuess(t *testing.T) {
	d := die(54)
	for range 30 {
		g := plotOf(t, &d, 12)
		to, r := d.n(g.Cells()), graph.New(g)
		back, err := flood.From(g, to)
		if err != nil {
			continue
		}
		guess := guessTo(g, to)
		for _, n := range r.Nodes() {
			if left, err := back.Cost(n); err == nil && cost.Less(left, guess(n)) {
				t.Errorf("from %d to %d: a guess of %v, %v is left", n, to, guess(n), left)
			}
			edges, _ := r.Edges(n)
			for _, e := range edges {
				if by := cost.Add(e.C, guess(e.To)); cost.Less(by, guess(n)) {
					t.Errorf("from %d to %d: a guess of %v, by %d %v", n, to, guess(n), e.To, by)
				}
			}
			if (guess(n) == api.Cost{}) != (n == to) {
				t.Errorf("from %d to %d: a guess of %v", n, to, guess(n))
			}
		}
	}
}
