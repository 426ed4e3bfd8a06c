package nav

import (
	"math"
	"slices"
	"strconv"
	"strings"
	"testing"

	"fellrunner/api"
	"fellrunner/clear"
	"fellrunner/text"
)

// counts: levels that may not be.
var counts = []int{math.MinInt, -7, -1, 0, api.MaxLevel + 1, api.MaxLevel + 2, math.MaxInt}

// checkNoService: there is an error, and no service.
func checkNoService(t *testing.T, x *Service, err error, want api.Errno, what ...any) {
	t.Helper()
	if x != nil || err != error(want) {
		t.Errorf("%q: a service: %v, error %v, want none, error %d", what, x != nil, err, want)
	}
}

// M1: services of all sizes: all is free, and saved so.
func TestNew(t *testing.T) {
	for w := 1; w <= api.MaxSide; w++ {
		for h := 1; h <= api.MaxSide; h++ {
			x := free(t, w, h, 1+(w+h)%api.MaxLevel)
			row := strings.Repeat(".", w) + "\n"
			if got, want := x.Save(), "type octile\nheight "+strconv.Itoa(h)+"\nwidth "+strconv.Itoa(w)+"\nmap\n"+strings.Repeat(row, h); got != want {
				t.Errorf("%d x %d: Save() = %q, want %q", w, h, got, want)
			}
			if a := x.Ask(0, w*h-1); a.Err != 0 || a.C != (api.Cost{S: max(w, h) - min(w, h), D: min(w, h) - 1}) {
				t.Errorf("%d x %d: from end to end %v", w, h, a)
			}
			checkErr(t, x, 0, w*h, api.ErrBound)
			checkStats(t, x, statsOf(t, freeGrid(t, w, h), 0, 1))
		}
	}
}

// M1, Z1, Z3: sides of 0, of one more than MaxSide, and others that may not be, either or both, with levels that may be or not.
func TestNewWrong(t *testing.T) {
	sides := []int{math.MinInt, -16, -1, 0, api.MaxSide + 1, api.MaxCells, math.MaxInt}
	for _, side := range sides {
		for _, most := range append([]int{1, api.MaxLevel}, counts...) {
			for _, other := range append([]int{1, api.MaxSide}, sides...) {
				x, err := New(side, other, most)
				checkNoService(t, x, err, api.ErrBound, side, other, most)
				x, err = New(other, side, most)
				checkNoService(t, x, err, api.ErrBound, other, side, most)
			}
		}
	}
}

// M1: so many levels at most: from 1 to MaxLevel, and no others.
func TestMost(t *testing.T) {
	s := text.Print(pillars(t))
	for most := 1; most <= api.MaxLevel; most++ {
		free(t, 1, 1, most)
		free(t, api.MaxSide, api.MaxSide, most)
		if top := loaded(t, s, most).Stats().Top; top != most {
			t.Errorf("most %d: top %d", most, top)
		}
	}
	for _, most := range counts {
		x, err := New(1, 1, most)
		checkNoService(t, x, err, api.ErrBound, most)
		x, err = New(api.MaxSide, api.MaxSide, most)
		checkNoService(t, x, err, api.ErrBound, most)
		x, err = Load(s, most)
		checkNoService(t, x, err, api.ErrBound, most)
		x, err = Load(mapOf("."), most)
		checkNoService(t, x, err, api.ErrBound, most)
	}
}

// M1, C2, Z3: a map that is none; its error is told ahead of that of the levels.
func TestLoadWrong(t *testing.T) {
	for s, want := range map[string]api.Errno{
		"":                                      api.ErrText,
		"fly":                                   api.ErrText,
		mapOf("...", ".."):                      api.ErrText,
		mapOf("..", ".x"):                       api.ErrText,
		mapOf("..", "..")[1:]:                   api.ErrText,
		mapOf("..", "..") + "\n":                api.ErrText,
		mapOf(strings.Repeat(".", 16)):          0,
		mapOf(strings.Repeat(".", 17)):          api.ErrBound,
		"type octile\nheight 0\nwidth 1\nmap\n": api.ErrBound,
		"type octile\nheight 17\nwidth 1\nmap\n" + strings.Repeat(".\n", 17):  api.ErrBound,
		"type octile\nheight 17\nwidth x\nmap\n":                              api.ErrText,
		"type octile\nheight 1\nwidth 1\nmap\n\xff\n":                         api.ErrText,
		"type octile\nheight 2\nwidth 4\nmap\n.GS.\n@OTW\n":                   0,
		strings.Repeat(".", api.MaxText):                                      api.ErrText,
		strings.Repeat(".", api.MaxText+1):                                    api.ErrMany,
		"type octile\nheight 17\nwidth 17\nmap\n" + strings.Repeat(".", 2000): api.ErrMany,
	} {
		for _, most := range append([]int{1, api.MaxLevel}, counts...) {
			x, err := Load(s, most)
			switch {
			case want != 0:
				checkNoService(t, x, err, want, s, most)
			case most < 1 || most > api.MaxLevel:
				checkNoService(t, x, err, api.ErrBound, s, most)
			case x == nil || err != nil:
				t.Errorf("Load(%q, %d): %v", s, most, err)
			}
		}
	}
}

// M1, W7: what is saved is loaded: it is saved the same, and answers the same; its version is how many cells are blocked.
func TestSaveAndLoad(t *testing.T) {
	d := die(31)
	for i := range 60 {
		most := 1 + i%api.MaxLevel
		g := plotOf(t, &d, 7)
		x := loaded(t, text.Print(g), most)
		l := someEdits(&d, g, 9)
		edit(t, x, l, editGrid(t, g, l))
		s := x.Save()
		if s != text.Print(g) {
			t.Fatalf("Save() = %q, want %q", s, text.Print(g))
		}
		y := loaded(t, s, most)
		if y.Save() != s {
			t.Errorf("loaded and saved: %q, was %q", y.Save(), s)
		}
		cells := slices.Concat(freeCells(g), []int{-1, g.Cells()})
		checkSame(t, askAll(y, cells), askAll(x, cells))
		stats := x.Stats()
		stats.Version = strings.Count(s, "@")
		checkStats(t, y, stats)
	}
}

// M1: a map's other letters are saved as '.' and '@'.
func TestSaveLetters(t *testing.T) {
	x := loaded(t, "type octile\nheight 2\nwidth 4\nmap\n.GS.\n@OTW\n", 2)
	if got := x.Save(); got != mapOf("....", "@@@@") {
		t.Errorf("Save() = %q", got)
	}
	checkStats(t, x, api.Stats{Cells: 8, Free: 4, Top: 1, Version: 4})
}

// M1, Z2: services of one map go on apart.
func TestServicesApart(t *testing.T) {
	one, other := drawn(t, 3, ".....", ".@@@.", ".@...", "....."), drawn(t, 3, ".....", ".@@@.", ".@...", ".....")
	before := told(other)
	edit(t, one, set(true, 0, 14), 2)
	edit(t, one, set(false, 7), 1)
	checkTold(t, other, before)
	edit(t, one, set(false, 0, 14), 2)
	edit(t, one, set(true, 7), 1)
	checkSame(t, askAll(one, []int{0, 4, 10, 14, 15, 17}), askAll(other, []int{0, 4, 10, 14, 15, 17}))
}

// M2: none, as nil and not: nothing changes.
func TestNoEdits(t *testing.T) {
	x := drawn(t, 3, ".....", ".@@@.", ".@...", ".....")
	before := told(x)
	edit(t, x, nil, 0)
	edit(t, x, []api.Edit{}, 0)
	checkTold(t, x, before)
}

// M2: MaxEdits are done, one more is too many, whatever they are: then nothing changes.
func TestManyEdits(t *testing.T) {
	x := free(t, api.MaxSide, api.MaxSide, 2)
	var l []api.Edit
	for i := range api.MaxEdits + 1 {
		l = append(l, api.Edit{Cell: 4 * i, Blocked: true})
	}
	odd := slices.Clone(l)
	odd[3].Cell = -1
	before := x.Save()
	for _, many := range [][]api.Edit{l, odd, append(slices.Clone(l), odd...), make([]api.Edit, api.MaxEdits+1), make([]api.Edit, 5000)} {
		if n, err := x.Edit(many); n != 0 || err != error(api.ErrMany) {
			t.Errorf("Edit of %d = %d, %v, want ErrMany", len(many), n, err)
		}
		if x.Save() != before {
			t.Error("too many edits changed the grid")
		}
		checkStats(t, x, api.Stats{Cells: 256, Free: 256, Top: 1})
	}
	edit(t, x, l[:api.MaxEdits], api.MaxEdits)
	g := freeGrid(t, api.MaxSide, api.MaxSide)
	editGrid(t, g, l[:api.MaxEdits])
	checkStats(t, x, statsOf(t, g, api.MaxEdits, 2))
	edit(t, x, l[:api.MaxEdits], 0)
	checkStats(t, x, statsOf(t, g, api.MaxEdits, 2))
}

// M2, Z1: one that is no cell, first, last or among others: nothing changes, of what is told and of what is asked.
func TestEditNoCell(t *testing.T) {
	x := drawn(t, 3, ".....", ".@@@.", ".@...", ".....")
	before := told(x)
	for _, none := range append([]int{20, 21}, wild...) {
		for at := range 4 {
			for _, blocked := range []bool{false, true} {
				l := slices.Insert([]api.Edit{{Cell: 0, Blocked: true}, {Cell: 7}, {Cell: 10, Blocked: true}}, at, api.Edit{Cell: none, Blocked: blocked})
				if n, err := x.Edit(l); n != 0 || err != error(api.ErrBound) {
					t.Errorf("Edit(%v) = %d, %v, want ErrBound", l, n, err)
				}
			}
		}
		if n, err := x.Edit(set(true, none)); n != 0 || err != error(api.ErrBound) {
			t.Errorf("Edit of %d = %d, %v, want ErrBound", none, n, err)
		}
	}
	checkTold(t, x, before)
}

// M2: the same cell several times: each in order; a cell that is as it is to be already: it doesn't count.
func TestEditAgain(t *testing.T) {
	x := free(t, 3, 3, 2)
	edit(t, x, set(false, 0, 1, 2, 8), 0)
	checkStats(t, x, api.Stats{Cells: 9, Free: 9, Top: 1})
	edit(t, x, set(true, 4, 4, 4), 1)
	checkStats(t, x, api.Stats{Cells: 9, Free: 8, Nodes: 4, Edges: 4, Added: 1, Top: 2, Version: 1})
	edit(t, x, []api.Edit{{Cell: 4}, {Cell: 4, Blocked: true}, {Cell: 4, Blocked: true}, {Cell: 4}, {Cell: 0, Blocked: true}, {Cell: 0}}, 5)
	checkStats(t, x, api.Stats{Cells: 9, Free: 9, Top: 1, Version: 6})
	edit(t, x, []api.Edit{{Cell: 4}, {Cell: 4, Blocked: true}, {Cell: 1, Blocked: true}, {Cell: 2}, {Cell: 1, Blocked: true}}, 2)
	if got := x.Save(); got != mapOf(".@.", ".@.", "...") {
		t.Errorf("Save() = %q", got)
	}
	checkStats(t, x, statsOf(t, gridOf(t, x), 8, 2))
}

// M2, W2: behind any edits a service tells what one that is laid anew tells: answers, way by way, looks and stats, but for the version.
func TestEditedAsAnew(t *testing.T) {
	d := die(32)
	for i := range 40 {
		most := 1 + i%api.MaxLevel
		g := plotOf(t, &d, 8)
		x := loaded(t, text.Print(g), most)
		version := strings.Count(x.Save(), "@")
		for range 6 {
			l := someEdits(&d, g, 5)
			changed := editGrid(t, g, l)
			edit(t, x, l, changed)
			version += changed
			checkStats(t, x, statsOf(t, g, version, most))
			if !checkLines(t, answers(x), answers(loaded(t, text.Print(g), most))) {
				t.Fatalf("behind %v, laid anew:\n%s", l, text.Print(g))
			}
		}
	}
}

// W2: what is set and set back, at once or one by one, in the same order or another one, leaves each answer as it was, way by way.
func TestSetBack(t *testing.T) {
	d := die(33)
	for i := range 40 {
		g := plotOf(t, &d, 9)
		x := loaded(t, text.Print(g), 1+i%api.MaxLevel)
		cells := slices.Concat(freeCells(g), []int{-1, g.Cells()})
		before, stats := askAll(x, cells), x.Stats()
		var there, back []api.Edit
		for range 1 + d.n(6) {
			cell := d.n(g.Cells())
			if slices.ContainsFunc(there, func(e api.Edit) bool { return e.Cell == cell }) {
				continue
			}
			there = append(there, api.Edit{Cell: cell, Blocked: isFree(g, cell)})
			back = append(back, api.Edit{Cell: cell, Blocked: !isFree(g, cell)})
		}
		if i%2 == 0 {
			slices.Reverse(back)
		}
		if i%3 == 0 {
			edit(t, x, append(there, back...), 2*len(back))
		} else {
			edit(t, x, there, len(back))
			for k := range back {
				edit(t, x, back[k:k+1], 1)
			}
		}
		checkSame(t, askAll(x, cells), before)
		stats.Version += 2 * len(back)
		checkStats(t, x, stats)
		if x.Save() != text.Print(g) {
			t.Errorf("Save() = %q, was %q", x.Save(), text.Print(g))
		}
	}
}

// M2: each cell of the greatest grid is blocked, at most at once, and freed again.
func TestFillAndEmpty(t *testing.T) {
	x := free(t, api.MaxSide, api.MaxSide, api.MaxLevel)
	g := freeGrid(t, api.MaxSide, api.MaxSide)
	version := 0
	for _, blocked := range []bool{true, false} {
		for first := 0; first < api.MaxCells; first += api.MaxEdits {
			var l []api.Edit
			for i := first; i < min(first+api.MaxEdits, api.MaxCells); i++ {
				// 37 has no divisor in common with the number of cells: each comes once.
				l = append(l, api.Edit{Cell: 37 * i % api.MaxCells, Blocked: blocked})
			}
			edit(t, x, l, len(l))
			version += editGrid(t, g, l)
			checkStats(t, x, statsOf(t, g, version, api.MaxLevel))
		}
	}
	checkStats(t, x, api.Stats{Cells: 256, Free: 256, Top: 1, Version: 512})
}

// M4: Look by hand, ahead of edits and behind them.
func TestLookByHand(t *testing.T) {
	x := free(t, 5, 4, 3)
	checkLook(t, x, 0, 4, 3)
	checkLook(t, x, 0, 2, 4)
	checkLook(t, x, 15, 1, 3)
	checkLook(t, x, 19, 7, 3)
	edit(t, x, set(true, 6, 7, 8, 11), 4)
	checkLook(t, x, 10, 1, 0)
	checkLook(t, x, 0, 2, 4)
	checkLook(t, x, 15, 1, 0)
	checkLook(t, x, 6, 0, 0)
	checkLook(t, x, 19, 7, 1)
	edit(t, x, set(false, 6, 7, 8, 11), 4)
	checkLook(t, x, 15, 1, 3)
}

func checkLook(t *testing.T, x *Service, cell, dir, want int) {
	t.Helper()
	if n, err := x.Look(cell, dir); n != want || err != nil {
		t.Errorf("Look(%d, %d) = %d, %v, want %d", cell, dir, n, err, want)
	}
}

// M4, F1, Z1: Look is Steps, error and all, of each cell and direction, and of what is none; ahead of edits and behind them.
func TestLookAsSteps(t *testing.T) {
	d := die(34)
	for range 25 {
		g := plotOf(t, &d, api.MaxSide)
		x := loaded(t, text.Print(g), 2)
		for range 4 {
			steps := clear.New(g)
			for _, cell := range append(freeCells(g), append([]int{0, g.Cells() - 1, g.Cells()}, wild...)...) {
				for _, dir := range []int{math.MinInt, -8, -1, 0, 1, 2, 3, 4, 5, 6, 7, 8, 9, 15, math.MaxInt} {
					n, err := x.Look(cell, dir)
					if want, wantErr := steps.Steps(cell, dir); n != want || err != wantErr {
						t.Fatalf("Look(%d, %d) = %d, %v, want %d, %v, in\n%s", cell, dir, n, err, want, wantErr, x.Save())
					}
				}
			}
			l := someEdits(&d, g, 7)
			edit(t, x, l, editGrid(t, g, l))
		}
	}
}

// M4: each field of Stats, by hand: the document's session.
func TestStatsByHand(t *testing.T) {
	x := free(t, 5, 4, 3)
	checkStats(t, x, api.Stats{Cells: 20, Free: 20, Top: 1})
	edit(t, x, set(true, 6, 7, 8, 11), 4)
	checkStats(t, x, api.Stats{Cells: 20, Free: 16, Nodes: 5, Edges: 5, Added: 1, Top: 3, Version: 4})
	edit(t, x, set(true, 13, 18), 2)
	checkStats(t, x, api.Stats{Cells: 20, Free: 14, Nodes: 4, Edges: 3, Added: 1, Top: 3, Version: 6})
	edit(t, x, set(true, 9), 1)
	edit(t, x, set(false, 13, 18), 2)
	checkStats(t, x, api.Stats{Cells: 20, Free: 15, Nodes: 3, Edges: 2, Added: 0, Top: 3, Version: 9})
	checkStats(t, drawn(t, 6, "@"), api.Stats{Cells: 1, Top: 1, Version: 1})
	checkStats(t, drawn(t, 1, "@...", "....", "...."), api.Stats{Cells: 12, Free: 11, Nodes: 1, Top: 1, Version: 1})
}

// M4: Stats of great grids, with each number of levels.
func TestStatsDrawn(t *testing.T) {
	d := die(35)
	for i := range 60 {
		g, most := plotOf(t, &d, api.MaxSide), 1+i%api.MaxLevel
		checkStats(t, loaded(t, text.Print(g), most), statsOf(t, g, g.Cells()-len(freeCells(g)), most))
	}
}

// M1 to M4: the document's session.
func TestSession(t *testing.T) {
	x := free(t, 5, 4, 3)
	checkCost(t, x, 0, 19, api.Cost{S: 1, D: 3})
	edit(t, x, set(true, 6, 7, 8, 11), 4)
	if got := x.Save(); got != mapOf(".....", ".@@@.", ".@...", ".....") {
		t.Errorf("Save() = %q", got)
	}
	checkWay(t, x, 5, 3, api.Cost{S: 4}, 5, 0, 1, 2, 3)
	checkCost(t, x, 10, 9, api.Cost{S: 5, D: 1})
	l, err := x.Batch([]api.Ask{{From: 0, To: 4}, {From: 10, To: 2}, {From: 6, To: 0}, {From: 99, To: 0}})
	if err != nil {
		t.Errorf("Batch: %v", err)
	}
	checkSame(t, l, []api.Answer{{Way: []int{0, 1, 2, 3, 4}, C: api.Cost{S: 4}}, {Way: []int{10, 5, 0, 1, 2}, C: api.Cost{S: 4}}, {Err: api.ErrBlocked}, {Err: api.ErrBound}})
	edit(t, x, set(true, 13, 18), 2)
	checkWay(t, x, 15, 9, api.Cost{S: 8}, 15, 10, 5, 0, 1, 2, 3, 4, 9)
	edit(t, x, set(true, 9), 1)
	checkWay(t, x, 15, 4, api.Cost{S: 7}, 15, 10, 5, 0, 1, 2, 3, 4)
	checkErr(t, x, 15, 19, api.ErrNone)
	edit(t, x, set(false, 13, 18), 2)
	checkWay(t, x, 15, 19, api.Cost{S: 4}, 15, 16, 17, 18, 19)
	x = drawn(t, 2, "..@.", ".@..", "....")
	checkWay(t, x, 0, 3, api.Cost{S: 5, D: 1}, 0, 4, 8, 9, 10, 7, 3)
	checkWay(t, x, 4, 6, api.Cost{S: 4}, 4, 8, 9, 10, 6)
	checkErr(t, x, 2, 0, api.ErrBlocked)
}
