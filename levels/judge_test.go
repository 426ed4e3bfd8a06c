package levels

import (
	"fmt"
	"slices"
	"strings"
	"testing"

	"fellrunner/api"
	"fellrunner/cost"
	"fellrunner/graph"
	"fellrunner/grid"
)

// die: numbers that look drawn, the same each time.
type die uint64

func (d *die) n(most int) int {
	*d = *d*6364136223846793005 + 1442695040888963407
	return int(uint64(*d>>33) % uint64(most))
}

// drawn: the grid of rows in which '@' is blocked.
func drawn(t *testing.T, rows ...string) *grid.Grid {
	t.Helper()
	g := free(t, len(rows[0]), len(rows))
	for cell, b := range []byte(strings.Join(rows, "")) {
		if b == '@' {
			setGrid(t, g, cell, true)
		}
	}
	return g
}

// free: a grid without walls.
func free(t *testing.T, w, h int) *grid.Grid {
	t.Helper()
	g, err := grid.New(w, h)
	if err != nil {
		t.Fatal(err)
	}
	return g
}

func setGrid(t *testing.T, g *grid.Grid, cell int, blocked bool) {
	t.Helper()
	if did, err := g.Set(cell, blocked); !did || err != nil {
		t.Fatalf("Set(%d, %v) = %v, %v", cell, blocked, did, err)
	}
}

// plotOf: a drawn grid with walls, few or many.
func plotOf(t *testing.T, d *die, w, h int) *grid.Grid {
	t.Helper()
	g := free(t, w, h)
	thin := d.n(12) + 2
	for cell := range g.Cells() {
		if d.n(thin) == 0 {
			setGrid(t, g, cell, true)
		}
	}
	return g
}

// laidOf: the levels of a grid's graph.
func laidOf(t *testing.T, g *grid.Grid, most int) *Levels {
	t.Helper()
	l, err := New(graph.New(g), most)
	if err != nil {
		t.Fatalf("New(.., %d): %v", most, err)
	}
	return l
}

// edgesOf a graph, by the corner from which they lead.
func edgesOf(r *graph.Graph) map[int][]api.Edge {
	all := map[int][]api.Edge{}
	for _, n := range r.Nodes() {
		all[n], _ = r.Edges(n)
	}
	return all
}

// seen: how often something came about while levels were judged.
type seen struct {
	skipped, even, oneMore, ties, dearer, alone, replaced, stuck, empty, full int
}

// judged: levels by the words, one by one and slowly.
type judged struct {
	top   int
	nodes []int
	level map[int]int
	edge  map[int]map[int]api.Edge
	seen  *seen
}

// judge: by the words, the levels over edges.
func judge(edges map[int][]api.Edge, most int, s *seen) *judged {
	j := &judged{top: 1, level: map[int]int{}, edge: map[int]map[int]api.Edge{}, seen: s}
	for n, l := range edges {
		j.nodes = append(j.nodes, n)
		j.edge[n] = map[int]api.Edge{}
		for _, e := range l {
			j.edge[n][e.To] = e
		}
	}
	slices.Sort(j.nodes)
	for j.top < most {
		if !j.round() {
			break
		}
		j.top++
	}
	open := j.open(-1)
	if j.top == most {
		s.full++
	} else if len(open) > 0 {
		s.stuck++
	} else {
		s.empty++
	}
	for _, n := range open {
		j.level[n] = j.top
	}
	return j
}

// open corners, but for one, rising.
func (j *judged) open(without int) []int {
	var open []int
	for _, n := range j.nodes {
		if j.level[n] == 0 && n != without {
			open = append(open, n)
		}
	}
	return open
}

func (j *judged) round() bool {
	var got []int
	var passed []int
	for _, n := range j.open(-1) {
		if slices.Contains(passed, n) {
			j.seen.skipped++
			continue
		}
		var ends []int
		for _, m := range j.open(n) {
			if _, is := j.edge[n][m]; is {
				ends = append(ends, m)
			}
		}
		pairs := j.neededOf(n, ends)
		if len(pairs) == len(ends)+1 {
			j.seen.oneMore++
		}
		if len(pairs) > len(ends) {
			continue
		}
		if len(pairs) == len(ends) && len(ends) > 0 {
			j.seen.even++
		}
		got, passed = append(got, n), append(passed, ends...)
		j.level[n] = j.top
		for _, p := range pairs {
			j.add(p[0], p[1], n)
		}
	}
	return len(got) > 0
}

// neededOf a corner: the pairs of ends of its edges between which no other way is as short.
func (j *judged) neededOf(n int, ends []int) [][2]int {
	var pairs [][2]int
	for i, a := range ends {
		for _, b := range ends[i+1:] {
			both := cost.Add(j.edge[n][a].C, j.edge[n][b].C)
			c, is := j.least(a, b, j.open(n))
			if !is {
				j.seen.alone++
			} else if cost.Compare(c, both) == 0 {
				j.seen.ties++
			} else if cost.Compare(c, both) > 0 {
				j.seen.dearer++
			}
			if !is || cost.Compare(c, both) > 0 {
				pairs = append(pairs, [2]int{a, b})
			}
		}
	}
	return pairs
}

// least that a way from a to b costs, over some corners: costs are lowered as long as one can be.
func (j *judged) least(a, b int, over []int) (api.Cost, bool) {
	known := map[int]api.Cost{a: {}}
	for changed := true; changed; {
		changed = false
		for _, n := range over {
			c, been := known[n]
			if !been {
				continue
			}
			for m, e := range j.edge[n] {
				old, was := known[m]
				by := cost.Add(c, e.C)
				if slices.Contains(over, m) && (!was || cost.Compare(by, old) < 0) {
					known[m], changed = by, true
				}
			}
		}
	}
	c, is := known[b]
	return c, is
}

func (j *judged) add(a, b, mid int) {
	if _, is := j.edge[a][b]; is {
		j.seen.replaced++
	}
	c := cost.Add(j.edge[mid][a].C, j.edge[mid][b].C)
	j.edge[a][b] = api.Edge{To: b, C: c, Mid: mid}
	j.edge[b][a] = api.Edge{To: a, C: c, Mid: mid}
}

func (j *judged) added() int {
	n := 0
	for a, l := range j.edge {
		for b, e := range l {
			if a < b && e.Mid >= 0 {
				n++
			}
		}
	}
	return n
}

func (j *judged) unpack(from, to int) []int {
	mid := j.edge[from][to].Mid
	if mid < 0 {
		return []int{from, to}
	}
	way := j.unpack(from, mid)
	return append(way[:len(way)-1], j.unpack(mid, to)...)
}

// told by the words: of all numbers from -1 to cells.
func (j *judged) told(cells int) string {
	var s strings.Builder
	fmt.Fprintln(&s, "top", j.top, "added", j.added())
	for n := -1; n <= cells; n++ {
		if !slices.Contains(j.nodes, n) {
			fmt.Fprintln(&s, n, 0, api.ErrNone, []api.Edge{}, api.ErrNone)
			continue
		}
		var edges []api.Edge
		for _, m := range j.nodes {
			if e, is := j.edge[n][m]; is {
				edges = append(edges, e)
			}
		}
		fmt.Fprintln(&s, n, j.level[n], nil, edges, nil)
		for _, e := range edges {
			fmt.Fprintln(&s, n, e.To, j.unpack(n, e.To))
		}
	}
	return s.String()
}

// told: all that levels tell of the numbers from -1 to cells; where there is no edge to unpack, that alone is looked at.
func told(t *testing.T, l *Levels, cells int) string {
	t.Helper()
	var s strings.Builder
	fmt.Fprintln(&s, "top", l.Top(), "added", l.Added())
	for n := -1; n <= cells; n++ {
		level, err := l.Level(n)
		edges, err2 := l.Edges(n)
		fmt.Fprintln(&s, n, level, err, edges, err2)
		for m := -1; m <= cells; m++ {
			way, err := l.Unpack(n, m)
			if err == nil {
				fmt.Fprintln(&s, n, m, way)
			} else if err != error(api.ErrNone) || len(way) != 0 {
				t.Errorf("Unpack(%d, %d) = %v, %v", n, m, way, err)
			}
		}
	}
	return s.String()
}

// checkLines: a text is as it should be; else the first line is told that isn't.
func checkLines(t *testing.T, got, want string) bool {
	t.Helper()
	if got == want {
		return true
	}
	lines, wanted := strings.Split(got, "\n"), strings.Split(want, "\n")
	for i := range min(len(lines), len(wanted)) {
		if lines[i] != wanted[i] {
			t.Errorf("told: %s\nwant: %s", lines[i], wanted[i])
			return false
		}
	}
	t.Errorf("%d lines are told, want %d", len(lines), len(wanted))
	return false
}

// checkGrid: the levels of a grid are those of the words.
func checkGrid(t *testing.T, g *grid.Grid, most int, s *seen) bool {
	t.Helper()
	r := graph.New(g)
	l, err := New(r, most)
	if err != nil {
		t.Errorf("New(.., %d): %v", most, err)
		return false
	}
	return checkLines(t, told(t, l, g.Cells()), judge(edgesOf(r), most, s).told(g.Cells()))
}
