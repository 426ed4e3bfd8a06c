package nav

import (
	"fmt"
	"math"
	"slices"
	"strings"
	"testing"

	"fellrunner/api"
	"fellrunner/cost"
	"fellrunner/flood"
	"fellrunner/graph"
	"fellrunner/grid"
	"fellrunner/levels"
	"fellrunner/text"
)

// die: numbers that look drawn, the same each time.
type die uint64

func (d *die) n(most int) int {
	*d = *d*6364136223846793005 + 1442695040888963407
	return int(uint64(*d>>33) % uint64(most))
}

// wild: numbers that are no cell of any grid.
var wild = []int{math.MinInt, math.MinInt + 1, -api.MaxCells, -17, -1, api.MaxCells, api.MaxCells + 1, math.MaxInt - 1, math.MaxInt}

// mapOf rows: the map that is loaded.
func mapOf(rows ...string) string {
	return fmt.Sprintf("type octile\nheight %d\nwidth %d\nmap\n%s\n", len(rows), len(rows[0]), strings.Join(rows, "\n"))
}

// loaded: a service over a map.
func loaded(t *testing.T, s string, most int) *Service {
	t.Helper()
	x, err := Load(s, most)
	if err != nil || x == nil {
		t.Fatalf("Load(%q, %d): %v", s, most, err)
	}
	return x
}

// drawn: a service over rows in which '@' is blocked.
func drawn(t *testing.T, most int, rows ...string) *Service {
	t.Helper()
	return loaded(t, mapOf(rows...), most)
}

// free: a service over a free grid.
func free(t *testing.T, w, h, most int) *Service {
	t.Helper()
	x, err := New(w, h, most)
	if err != nil || x == nil {
		t.Fatalf("New(%d, %d, %d): %v", w, h, most, err)
	}
	return x
}

// freeGrid: a grid without walls.
func freeGrid(t *testing.T, w, h int) *grid.Grid {
	t.Helper()
	g, err := grid.New(w, h)
	if err != nil {
		t.Fatal(err)
	}
	return g
}

// plotOf: a drawn grid with walls, few or many, or with rows of walls that have a gap each.
func plotOf(t *testing.T, d *die, most int) *grid.Grid {
	t.Helper()
	w, h := 1+d.n(most), 1+d.n(most)
	g := freeGrid(t, w, h)
	thin, rows, gap := d.n(12)+2, d.n(4) == 0, d.n(w)
	for cell := range g.Cells() {
		wall := d.n(thin) == 0
		if rows {
			wall = cell/w%2 == 1 && (cell+cell/w)%w != gap
		}
		if wall {
			_, _ = g.Set(cell, true)
		}
	}
	return g
}

// pillars: the greatest grid, with walls at each second place of each second row: many corners.
func pillars(t *testing.T) *grid.Grid {
	t.Helper()
	g := freeGrid(t, api.MaxSide, api.MaxSide)
	for cell := range g.Cells() {
		if cell%api.MaxSide%2 == 1 && cell/api.MaxSide%2 == 1 {
			_, _ = g.Set(cell, true)
		}
	}
	return g
}

// gridOf a service, by what it saves.
func gridOf(t *testing.T, x *Service) *grid.Grid {
	t.Helper()
	g, err := text.Parse(x.Save())
	if err != nil {
		t.Fatalf("Save() = %q, which is no map: %v", x.Save(), err)
	}
	return g
}

func isFree(g *grid.Grid, cell int) bool {
	is, err := g.Free(cell)
	return is && err == nil
}

// freeCells of a grid, rising.
func freeCells(g *grid.Grid) []int {
	var l []int
	for cell := range g.Cells() {
		if isFree(g, cell) {
			l = append(l, cell)
		}
	}
	return l
}

// set: edits of cells, all of which are to be blocked, or free.
func set(blocked bool, cells ...int) []api.Edit {
	var l []api.Edit
	for _, cell := range cells {
		l = append(l, api.Edit{Cell: cell, Blocked: blocked})
	}
	return l
}

// edit: so many are to change.
func edit(t *testing.T, x *Service, l []api.Edit, want int) {
	t.Helper()
	if n, err := x.Edit(l); n != want || err != nil {
		t.Fatalf("Edit(%v) = %d, %v, want %d", l, n, err, want)
	}
}

// someEdits: drawn edits, at most so many.
func someEdits(d *die, g *grid.Grid, most int) []api.Edit {
	var l []api.Edit
	for range d.n(most + 1) {
		l = append(l, api.Edit{Cell: d.n(g.Cells()), Blocked: d.n(2) == 0})
	}
	return l
}

// editGrid: a grid is edited one by one; how many changed.
func editGrid(t *testing.T, g *grid.Grid, l []api.Edit) int {
	t.Helper()
	changed := 0
	for _, e := range l {
		did, err := g.Set(e.Cell, e.Blocked)
		if err != nil {
			t.Fatal(err)
		}
		if did {
			changed++
		}
	}
	return changed
}

// same: are answers the same, way and all?
func same(a, b api.Answer) bool {
	return slices.Equal(a.Way, b.Way) && a.C == b.C && a.Err == b.Err
}

// want: by the words, what an ask is to be answered, but for the way; floods by the cell that they are from.
func want(g *grid.Grid, floods map[int]*flood.Flood, from, to int) (api.Cost, api.Errno) {
	for _, cell := range []int{from, to} {
		if _, err := g.Free(cell); err != nil {
			return api.Cost{}, api.ErrBound
		}
		if !isFree(g, cell) {
			return api.Cost{}, api.ErrBlocked
		}
	}
	if floods[from] == nil {
		floods[from], _ = flood.From(g, from)
	}
	c, err := floods[from].Cost(to)
	if err != nil {
		return api.Cost{}, api.ErrNone
	}
	return c, 0
}

// checkAnswer: it is by the words: a way from the one to the other that costs what is told, and no less can be told.
func checkAnswer(t *testing.T, g *grid.Grid, floods map[int]*flood.Flood, from, to int, a api.Answer) bool {
	t.Helper()
	c, e := want(g, floods, from, to)
	if a.C != c || a.Err != e || (len(a.Way) > 0) != (e == 0) {
		t.Errorf("from %d to %d: %v, want %v, error %d, in\n%s", from, to, a, c, e, text.Print(g))
		return false
	}
	if e != 0 {
		return true
	}
	walked, err := flood.Walk(g, a.Way)
	if walked != c || err != nil || a.Way[0] != from || a.Way[len(a.Way)-1] != to {
		t.Errorf("from %d to %d: %v, which is a walk of %v, %v, in\n%s", from, to, a, walked, err, text.Print(g))
		return false
	}
	return true
}

// checkAsk: what an ask is answered is by the words.
func checkAsk(t *testing.T, x *Service, from, to int) api.Answer {
	t.Helper()
	a := x.Ask(from, to)
	checkAnswer(t, gridOf(t, x), map[int]*flood.Flood{}, from, to, a)
	return a
}

// checkAsks: all asks between some cells are answered by the words.
func checkAsks(t *testing.T, x *Service, cells []int) {
	t.Helper()
	g, floods := gridOf(t, x), map[int]*flood.Flood{}
	for _, from := range cells {
		for _, to := range cells {
			if !checkAnswer(t, g, floods, from, to, x.Ask(from, to)) {
				return
			}
		}
	}
}

// checkWay: just one way costs least.
func checkWay(t *testing.T, x *Service, from, to int, c api.Cost, way ...int) {
	t.Helper()
	if a := checkAsk(t, x, from, to); !same(a, api.Answer{Way: way, C: c}) {
		t.Errorf("Ask(%d, %d) = %v, want %v, %v", from, to, a, c, way)
	}
}

// checkCost: a way costs so much, whichever it is.
func checkCost(t *testing.T, x *Service, from, to int, c api.Cost) {
	t.Helper()
	if a := checkAsk(t, x, from, to); a.C != c || a.Err != 0 {
		t.Errorf("Ask(%d, %d) = %v, want %v", from, to, a, c)
	}
}

// checkErr: an ask is answered by an error, and all else is zero.
func checkErr(t *testing.T, x *Service, from, to int, want api.Errno) {
	t.Helper()
	if a := x.Ask(from, to); len(a.Way) != 0 || a.C != (api.Cost{}) || a.Err != want {
		t.Errorf("Ask(%d, %d) = %v, want error %d", from, to, a, want)
	}
}

// askAll: all answers between some cells, way by way.
func askAll(x *Service, cells []int) []api.Answer {
	var all []api.Answer
	for _, from := range cells {
		for _, to := range cells {
			all = append(all, x.Ask(from, to))
		}
	}
	return all
}

// checkSame: answers are those that are wanted, way by way.
func checkSame(t *testing.T, got, want []api.Answer) bool {
	t.Helper()
	if len(got) != len(want) {
		t.Errorf("%d answers, want %d", len(got), len(want))
		return false
	}
	for i := range got {
		if !same(got[i], want[i]) {
			t.Errorf("answer %d: %v, want %v", i, got[i], want[i])
			return false
		}
	}
	return true
}

// costsOf answers, and their errors, without the ways.
func costsOf(l []api.Answer) []api.Answer {
	l = slices.Clone(l)
	for i := range l {
		l[i].Way = nil
	}
	return l
}

// told: all that a service tells.
func told(x *Service) string { return fmt.Sprintln(x.Stats()) + answers(x) }

// answers: the map, and what is told of each cell, and of numbers that are none.
func answers(x *Service) string {
	var s strings.Builder
	fmt.Fprintln(&s, x.Save())
	cells := x.Stats().Cells
	for cell := -1; cell <= cells; cell++ {
		for dir := -1; dir <= api.Dirs; dir++ {
			n, err := x.Look(cell, dir)
			fmt.Fprintln(&s, "look", cell, dir, n, err)
		}
	}
	for from := -1; from <= cells; from++ {
		for to := -1; to <= cells; to++ {
			fmt.Fprintln(&s, "ask", from, to, x.Ask(from, to))
		}
	}
	return s.String()
}

// checkTold: a service tells what it told.
func checkTold(t *testing.T, x *Service, want string) bool {
	t.Helper()
	return checkLines(t, told(x), want)
}

// checkLines: a text is as it should be; else the first line is told that isn't.
func checkLines(t *testing.T, got, want string) bool {
	t.Helper()
	if got == want {
		return true
	}
	lines, wanted := strings.Split(got, "\n"), strings.Split(want, "\n")
	for i := range min(len(lines), len(wanted)) {
		if lines[i] != wanted[i] {
			t.Errorf("told: %s\nwant: %s", lines[i], wanted[i])
			return false
		}
	}
	t.Errorf("%d lines are told, want %d", len(lines), len(wanted))
	return false
}

// statsOf a grid by the words, field by field, with so many levels at most.
func statsOf(t *testing.T, g *grid.Grid, version, most int) api.Stats {
	t.Helper()
	r := graph.New(g)
	l, err := levels.New(r, most)
	if err != nil {
		t.Fatal(err)
	}
	edges, added := 0, 0
	for _, n := range r.Nodes() {
		own, _ := r.Edges(n)
		all, _ := l.Edges(n)
		for _, e := range own {
			if n < e.To {
				edges++
			}
		}
		for _, e := range all {
			if n < e.To && e.Mid >= 0 {
				added++
			}
		}
	}
	w, h := g.Size()
	return api.Stats{Cells: w * h, Free: strings.Count(text.Print(g), "."), Nodes: len(r.Nodes()), Edges: edges, Added: added, Top: l.Top(), Version: version}
}

// checkStats: they are as told.
func checkStats(t *testing.T, x *Service, want api.Stats) {
	t.Helper()
	if got := x.Stats(); got != want {
		t.Errorf("Stats() = %+v, want %+v, of\n%s", got, want, x.Save())
	}
}

// moved: a service over a grid whose cells lie elsewhere, on a grid of another size; all other cells are blocked.
func moved(t *testing.T, g *grid.Grid, w, h, most int, to func(x, y int) (int, int)) (*Service, func(cell int) int) {
	t.Helper()
	other := freeGrid(t, w, h)
	for cell := range other.Cells() {
		_, _ = other.Set(cell, true)
	}
	place := func(cell int) int {
		x, y, _ := g.Place(cell)
		at, err := other.Cell(to(x, y))
		if err != nil {
			t.Fatalf("cell %d lies out of %d x %d", cell, w, h)
		}
		return at
	}
	for _, cell := range freeCells(g) {
		_, _ = other.Set(place(cell), false)
	}
	return loaded(t, text.Print(other), most), place
}

// lessOf two answers: does the first one cost less? No way costs more than any.
func lessOf(a, b api.Answer) bool {
	if a.Err != 0 || b.Err != 0 {
		return a.Err == 0 && b.Err != 0
	}
	return cost.Less(a.C, b.C)
}
