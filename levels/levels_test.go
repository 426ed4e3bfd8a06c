package levels

import (
	"fmt"
	"math"
	"slices"
	"strconv"
	"sync"
	"testing"

	"fellrunner/api"
	"fellrunner/cost"
	"fellrunner/graph"
	"fellrunner/grid"
)

// wild: numbers that are no corner of any grid.
var wild = []int{math.MinInt, math.MinInt + 1, -api.MaxCells, -17, -2, -1, api.MaxCells, api.MaxCells + 1, math.MaxInt - 1, math.MaxInt}

// road: an edge between two corners, either way, of so many straight steps.
type road struct{ a, b, steps int }

// roads: edges by the corner from which they lead, of corners that are made up, so that costs may be any.
func roads(list ...road) map[int][]api.Edge {
	all := map[int][]api.Edge{}
	for _, k := range list {
		addRoad(all, k.a, k.b, api.Cost{S: k.steps})
	}
	return all
}

// addRoad between two corners, unless there is one.
func addRoad(all map[int][]api.Edge, a, b int, c api.Cost) {
	if at, is := place(all[a], b); !is && a != b {
		all[a] = slices.Insert(all[a], at, api.Edge{To: b, C: c, Mid: -1})
		at, _ = place(all[b], a)
		all[b] = slices.Insert(all[b], at, api.Edge{To: a, C: c, Mid: -1})
	}
}

// cloned: the same edges, in other memory.
func cloned(edges map[int][]api.Edge) map[int][]api.Edge {
	all := map[int][]api.Edge{}
	for n, l := range edges {
		all[n] = slices.Clone(l)
	}
	return all
}

// checkRoads: the levels over edges are those of the words; which they are.
func checkRoads(t *testing.T, edges map[int][]api.Edge, most int, s *seen) *Levels {
	t.Helper()
	last := 0
	for n := range edges {
		last = max(last, n)
	}
	want := judge(edges, most, s).told(last + 1)
	l := over(cloned(edges), most)
	checkLines(t, told(t, l, last+1), want)
	return l
}

// to: an edge that leads to a corner, by so many straight and diagonal steps, and stands for two over a corner (or for none, if that is below 0).
func to(n, straight, diagonal, mid int) api.Edge {
	return api.Edge{To: n, C: api.Cost{S: straight, D: diagonal}, Mid: mid}
}

func checkCounts(t *testing.T, l *Levels, top, added int) {
	t.Helper()
	if l.Top() != top || l.Added() != added {
		t.Errorf("Top() = %d, Added() = %d, want %d, %d", l.Top(), l.Added(), top, added)
	}
}

// checkLevels: corners have levels, as they are told two by two.
func checkLevels(t *testing.T, l *Levels, want ...[2]int) {
	t.Helper()
	for _, k := range want {
		if got, err := l.Level(k[0]); got != k[1] || err != nil {
			t.Errorf("Level(%d) = %d, %v, want %d", k[0], got, err, k[1])
		}
	}
}

func checkEdges(t *testing.T, l *Levels, n int, want ...api.Edge) {
	t.Helper()
	if got, err := l.Edges(n); !slices.Equal(got, want) || err != nil {
		t.Errorf("Edges(%d) = %v, %v, want %v", n, got, err, want)
	}
}

// checkWay: an edge unpacked is a way, and back it is the same one, back.
func checkWay(t *testing.T, l *Levels, want ...int) {
	t.Helper()
	from, to := want[0], want[len(want)-1]
	if got, err := l.Unpack(from, to); !slices.Equal(got, want) || err != nil {
		t.Errorf("Unpack(%d, %d) = %v, %v, want %v", from, to, got, err, want)
	}
	back := slices.Clone(want)
	slices.Reverse(back)
	if got, err := l.Unpack(to, from); !slices.Equal(got, back) || err != nil {
		t.Errorf("Unpack(%d, %d) = %v, %v, want %v", to, from, got, err, back)
	}
}

func checkNoWay(t *testing.T, l *Levels, from, to int) {
	t.Helper()
	if got, err := l.Unpack(from, to); len(got) != 0 || err != error(api.ErrNone) {
		t.Errorf("Unpack(%d, %d) = %v, %v, want ErrNone", from, to, got, err)
	}
}

// checkNone: a number is no corner.
func checkNone(t *testing.T, l *Levels, n int) {
	t.Helper()
	if got, err := l.Level(n); got != 0 || err != error(api.ErrNone) {
		t.Errorf("Level(%d) = %d, %v, want ErrNone", n, got, err)
	}
	if got, err := l.Edges(n); len(got) != 0 || err != error(api.ErrNone) {
		t.Errorf("Edges(%d) = %v, %v, want ErrNone", n, got, err)
	}
	checkNoWay(t, l, n, n)
}

// K1 to K3: on the document's map, by hand: 0 goes, as round the other side it is nearer; 4 and 15 are passed over for it; 14 goes, and leaves an edge behind.
func TestByHand(t *testing.T) {
	l := laidOf(t, drawn(t, ".....", ".@@@.", ".@...", "....."), 3)
	checkCounts(t, l, 3, 1)
	checkLevels(t, l, [2]int{0, 1}, [2]int{4, 2}, [2]int{14, 1}, [2]int{15, 2}, [2]int{17, 3})
	checkEdges(t, l, 0, to(4, 4, 0, -1), to(15, 3, 0, -1))
	checkEdges(t, l, 4, to(0, 4, 0, -1), to(14, 2, 0, -1), to(17, 3, 1, 14))
	checkEdges(t, l, 14, to(4, 2, 0, -1), to(17, 1, 1, -1))
	checkEdges(t, l, 15, to(0, 3, 0, -1), to(17, 2, 0, -1))
	checkEdges(t, l, 17, to(4, 3, 1, 14), to(14, 1, 1, -1), to(15, 2, 0, -1))
	checkWay(t, l, 4, 14, 17)
	checkWay(t, l, 0, 4)
	checkWay(t, l, 15, 17)
	checkNoWay(t, l, 0, 14)
	checkNoWay(t, l, 4, 15)
	checkNoWay(t, l, 4, 4)
	checkNoWay(t, l, 4, 2)
	checkNoWay(t, l, 2, 4)
}

// K1, K3: the document's session, by what it counts; in the second one the edge that was added has the Mid 0, which counts.
func TestSession(t *testing.T) {
	r := graph.New(free(t, 5, 4))
	step := func(blocked bool, top, added int, cells ...int) *Levels {
		for _, cell := range cells {
			if did, err := r.Set(cell, blocked); !did || err != nil {
				t.Fatalf("Set(%d, %v) = %v, %v", cell, blocked, did, err)
			}
		}
		l, err := New(r, 3)
		if err != nil {
			t.Fatal(err)
		}
		checkCounts(t, l, top, added)
		return l
	}
	step(true, 3, 1, 6, 7, 8, 11)
	l := step(true, 3, 1, 13, 18)
	checkEdges(t, l, 4, to(0, 4, 0, -1), to(15, 7, 0, 0))
	checkWay(t, l, 4, 0, 15)
	_, _ = r.Set(9, true)
	step(false, 3, 0, 13, 18)
}

// K1: how many levels there may be at most: from 1 to MaxLevel, of any graph.
func TestMost(t *testing.T) {
	for _, g := range []*grid.Grid{free(t, 1, 1), drawn(t, ".....", ".@@@.", ".@...", ".....")} {
		r := graph.New(g)
		for _, most := range append(slices.Clone(wild), 0, api.MaxLevel+1) {
			if l, err := New(r, most); l != nil || err != error(api.ErrBound) {
				t.Errorf("New(.., %d) = %v, %v, want ErrBound", most, l, err)
			}
		}
		for most := 1; most <= api.MaxLevel; most++ {
			if l, err := New(r, most); l == nil || err != nil {
				t.Errorf("New(.., %d) = %v, %v", most, l, err)
			}
		}
	}
}

// K1, K2: graphs without a corner: none gets a level, so Top stays 1.
func TestNoCorner(t *testing.T) {
	for _, g := range []*grid.Grid{drawn(t, "."), drawn(t, "@"), drawn(t, "@@", "@@"), drawn(t, "@@@", "...", "@@@"), free(t, api.MaxSide, api.MaxSide)} {
		for most := 1; most <= api.MaxLevel; most++ {
			l := laidOf(t, g, most)
			checkCounts(t, l, 1, 0)
			for n := range g.Cells() {
				checkNone(t, l, n)
			}
		}
	}
}

// K1, K2: a graph with one corner: it has no edges, which is no error; a round gives it a level, and the next one none.
func TestOneCorner(t *testing.T) {
	for most := 1; most <= api.MaxLevel; most++ {
		l := laidOf(t, drawn(t, "@...", "....", "...."), most)
		checkCounts(t, l, min(most, 2), 0)
		checkLevels(t, l, [2]int{5, 1})
		checkEdges(t, l, 5)
		for _, n := range []int{0, 4, 6, 10, 11} {
			checkNone(t, l, n)
			checkNoWay(t, l, 5, n)
			checkNoWay(t, l, n, 5)
		}
		checkNoWay(t, l, 5, 5)
	}
}

// K1, K3: what is no corner: cells that are free or blocked, and numbers that are no cell.
func TestNoNode(t *testing.T) {
	g := drawn(t, ".....", ".@@@.", ".@...", ".....")
	for most := 1; most <= api.MaxLevel; most++ {
		l := laidOf(t, g, most)
		for _, n := range append(slices.Clone(wild), 1, 6, 7, 10, 19, 20) {
			checkNone(t, l, n)
			checkNoWay(t, l, 0, n)
			checkNoWay(t, l, n, 0)
		}
		for _, n := range []int{0, 4, 14, 15, 17} {
			checkNoWay(t, l, n, n)
		}
	}
}

// K2: where there may be one level there is no round: all corners have it, and the edges are the graph's.
func TestOneLevel(t *testing.T) {
	d := die(3)
	for range 200 {
		g := plotOf(t, &d, 1+d.n(12), 1+d.n(12))
		r, l := graph.New(g), laidOf(t, g, 1)
		checkCounts(t, l, 1, 0)
		for _, n := range r.Nodes() {
			edges, _ := r.Edges(n)
			checkLevels(t, l, [2]int{n, 1})
			checkEdges(t, l, n, edges...)
			for _, e := range edges {
				checkWay(t, l, n, e.To)
			}
		}
	}
}

// plane: corners, as many as points and lines, of which each two points are on one line: so no two corners that have edges to a third one are otherwise near.
func plane(from int, ons ...int) map[int][]api.Edge {
	all := map[int][]api.Edge{}
	points := len(ons)*len(ons) - len(ons) + 1
	for line := range points {
		for _, on := range ons {
			addRoad(all, from+(line+on)%points, from+points+line, api.Cost{S: 1})
		}
	}
	return all
}

// K2: rounds end as none got a level, while there are corners that have none: four edges each, and six are needed. Where there are three edges each, three are.
func TestStuck(t *testing.T) {
	var s seen
	for most := 1; most <= api.MaxLevel; most++ {
		l := checkRoads(t, plane(0, 0, 1, 3, 9), most, &s)
		checkCounts(t, l, 1, 0)
		for n := range 26 {
			checkLevels(t, l, [2]int{n, 1})
		}
	}
	if s.stuck != api.MaxLevel-1 {
		t.Errorf("stuck %d times", s.stuck)
	}
	l := checkRoads(t, plane(0, 0, 1, 3), 2, &s)
	checkLevels(t, l, [2]int{0, 1}, [2]int{1, 1}, [2]int{6, 1}, [2]int{7, 2}, [2]int{13, 2})
}

// K2: a round that gives a level, and one that gives none: those that are left get the level behind it.
func TestStuckLater(t *testing.T) {
	var s seen
	edges := plane(1, 0, 1, 3, 9)
	addRoad(edges, 0, 1, api.Cost{S: 1})
	for most := 2; most <= api.MaxLevel; most++ {
		l := checkRoads(t, edges, most, &s)
		checkCounts(t, l, 2, 0)
		checkLevels(t, l, [2]int{0, 1}, [2]int{1, 2}, [2]int{26, 2})
	}
}

// K2: rounds end as Top came to most, or as all have a level; in a row of corners each second one goes in a round.
func TestRow(t *testing.T) {
	edges := roads(road{0, 1, 1}, road{1, 2, 2}, road{2, 3, 4}, road{3, 4, 8})
	var s seen
	l := checkRoads(t, edges, 2, &s)
	checkCounts(t, l, 2, 1)
	checkLevels(t, l, [2]int{0, 1}, [2]int{1, 2}, [2]int{2, 1}, [2]int{3, 2}, [2]int{4, 1})
	checkEdges(t, l, 1, to(0, 1, 0, -1), to(2, 2, 0, -1), to(3, 6, 0, 2))
	checkEdges(t, l, 3, to(1, 6, 0, 2), to(2, 4, 0, -1), to(4, 8, 0, -1))
	l = checkRoads(t, edges, 3, &s)
	checkCounts(t, l, 3, 1)
	checkLevels(t, l, [2]int{1, 2}, [2]int{3, 3})
	for most := 4; most <= api.MaxLevel; most++ {
		l = checkRoads(t, edges, most, &s)
		checkCounts(t, l, 4, 1)
		checkLevels(t, l, [2]int{1, 2}, [2]int{3, 3})
	}
	if s.empty != 2 || s.full != 3 || s.stuck != 0 {
		t.Errorf("ends of rounds: %+v", s)
	}
}

// K2: a corner is passed over for one round alone, and only for one that got its level in it: 1 is looked at in the next round, and 0 is then none that has no level.
func TestSkip(t *testing.T) {
	var s seen
	l := checkRoads(t, roads(road{0, 1, 1}), 4, &s)
	checkCounts(t, l, 3, 0)
	checkLevels(t, l, [2]int{0, 1}, [2]int{1, 2})
	if s.skipped != 1 {
		t.Errorf("passed over %d times, want 1", s.skipped)
	}
	// 0 has too many edges that are needed, and gets no level: for it none is passed over.
	l = checkRoads(t, roads(road{0, 1, 1}, road{0, 2, 1}, road{0, 3, 1}, road{0, 4, 1}), 2, &s)
	checkCounts(t, l, 2, 0)
	checkLevels(t, l, [2]int{0, 2}, [2]int{1, 1}, [2]int{2, 1}, [2]int{3, 1}, [2]int{4, 1})
}

// star: corner 0 with so many edges of a step, and edges between pairs of their ends that cost two.
func star(ends int, pairs ...[2]int) map[int][]api.Edge {
	all := map[int][]api.Edge{}
	for n := range ends {
		addRoad(all, 0, n+1, api.Cost{S: 1})
	}
	for _, p := range pairs {
		addRoad(all, p[0], p[1], api.Cost{S: 2})
	}
	return all
}

// K2: no more needed than a corner has edges: none, as many, and one more.
func TestHowMany(t *testing.T) {
	var s seen
	for _, k := range []struct {
		edges        map[int][]api.Edge
		level, added int
	}{
		{star(1), 1, 0},
		{star(2), 1, 1},
		{star(3), 1, 3},
		{star(4), 2, 0},
		{star(4, [2]int{1, 2}), 2, 0},
		{star(4, [2]int{1, 2}, [2]int{3, 4}), 1, 4},
		{star(4, [2]int{1, 3}, [2]int{2, 4}), 1, 4},
		{star(4, [2]int{1, 2}, [2]int{2, 3}, [2]int{3, 4}), 1, 3},
		{star(5, [2]int{1, 2}, [2]int{2, 3}, [2]int{3, 4}, [2]int{4, 5}), 2, 0},
		{star(5, [2]int{1, 2}, [2]int{2, 3}, [2]int{3, 4}, [2]int{4, 5}, [2]int{1, 5}), 1, 5},
	} {
		l := checkRoads(t, k.edges, 2, &s)
		checkLevels(t, l, [2]int{0, k.level})
		checkCounts(t, l, 2, k.added)
	}
	if s.even != 4 || s.oneMore < 2 {
		t.Errorf("as many needed as edges %d times, one more %d times", s.even, s.oneMore)
	}
}

// K2: edges to corners that have a level count no more: 2 has four, and six would be needed, but all others got theirs ahead of it.
func TestOpenAlone(t *testing.T) {
	var s seen
	l := checkRoads(t, roads(road{2, 0, 1}, road{2, 1, 1}, road{2, 3, 1}, road{2, 4, 1}), 3, &s)
	checkCounts(t, l, 3, 0)
	checkLevels(t, l, [2]int{0, 1}, [2]int{1, 1}, [2]int{2, 2}, [2]int{3, 1}, [2]int{4, 1})
}

// detour: corner 0 between 1 and 2, to each of which its edge costs something, and another way from 1 to 2 over 3.
func detour(near, other, far, behind api.Cost) map[int][]api.Edge {
	all := map[int][]api.Edge{}
	addRoad(all, 0, 1, near)
	addRoad(all, 0, 2, other)
	addRoad(all, 1, 3, far)
	addRoad(all, 2, 3, behind)
	return all
}

// K2: one is needed, if the other way costs more, by however little; not if it costs just as much, or less.
func TestDetour(t *testing.T) {
	var s seen
	for _, k := range []struct {
		near, other, far, behind api.Cost
		needed                   bool
	}{
		{api.Cost{S: 2}, api.Cost{S: 2}, api.Cost{S: 1}, api.Cost{S: 2}, false},
		{api.Cost{S: 2}, api.Cost{S: 2}, api.Cost{S: 2}, api.Cost{S: 2}, false},
		{api.Cost{S: 2}, api.Cost{S: 2}, api.Cost{S: 3}, api.Cost{S: 2}, true},
		{api.Cost{D: 2}, api.Cost{D: 3}, api.Cost{S: 3}, api.Cost{S: 4}, false},
		{api.Cost{D: 2}, api.Cost{D: 3}, api.Cost{S: 4}, api.Cost{S: 4}, true},
		{api.Cost{S: 3}, api.Cost{S: 4}, api.Cost{D: 2}, api.Cost{D: 3}, true},
		{api.Cost{S: 4}, api.Cost{S: 4}, api.Cost{D: 2}, api.Cost{D: 3}, false},
		{api.Cost{D: 35}, api.Cost{D: 35}, api.Cost{S: 50}, api.Cost{S: 49}, true},
		{api.Cost{S: 50}, api.Cost{S: 49}, api.Cost{D: 35}, api.Cost{D: 35}, false},
		{api.Cost{S: 1, D: 2}, api.Cost{S: 3, D: 1}, api.Cost{S: 4}, api.Cost{D: 3}, false},
		{api.Cost{S: 1, D: 2}, api.Cost{S: 3, D: 1}, api.Cost{S: 4}, api.Cost{S: 1, D: 3}, true},
	} {
		l := checkRoads(t, detour(k.near, k.other, k.far, k.behind), 2, &s)
		checkLevels(t, l, [2]int{0, 1})
		both := cost.Add(k.near, k.other)
		edge := api.Edge{To: 2, C: both, Mid: 0}
		if got, _ := l.Edges(1); slices.Contains(got, edge) != k.needed {
			t.Errorf("%v: Edges(1) = %v", k, got)
		}
	}
	if s.ties == 0 || s.dearer == 0 {
		t.Errorf("%+v", s)
	}
}

// K2: a way does not count that leads over n itself, nor one over a corner that has its level: it is needed all the same.
func TestWaysThatDoNotCount(t *testing.T) {
	var s seen
	// 0 is the one way from 1 to 2.
	l := checkRoads(t, roads(road{0, 1, 1}, road{0, 2, 1}), 2, &s)
	checkEdges(t, l, 1, to(0, 1, 0, -1), to(2, 2, 0, 0))
	checkEdges(t, l, 2, to(0, 1, 0, -1), to(1, 2, 0, 0))
	if s.alone != 1 {
		t.Errorf("%+v", s)
	}
	// 0 goes first, since over 1 it is no farther from 2 to 3; then 1 may not lean on 0.
	l = checkRoads(t, roads(road{0, 2, 2}, road{0, 3, 2}, road{1, 2, 2}, road{1, 3, 2}), 2, &s)
	checkLevels(t, l, [2]int{0, 1}, [2]int{1, 1}, [2]int{2, 2}, [2]int{3, 2})
	checkCounts(t, l, 2, 1)
	checkEdges(t, l, 2, to(0, 2, 0, -1), to(1, 2, 0, -1), to(3, 4, 0, 1))
	// Two corners go in one round, the second one over an edge that the first one left behind.
	l = checkRoads(t, roads(road{0, 2, 2}, road{0, 3, 2}, road{1, 2, 3}, road{1, 3, 2}), 2, &s)
	checkLevels(t, l, [2]int{0, 1}, [2]int{1, 1})
	checkCounts(t, l, 2, 1)
	checkEdges(t, l, 2, to(0, 2, 0, -1), to(1, 3, 0, -1), to(3, 4, 0, 0))
}

// K2: of one corner those that are needed don't count for each other: from 1 to 3 it would be nearer over the edge from 1 to 2 that is added with it.
func TestNeededTogether(t *testing.T) {
	var s seen
	l := checkRoads(t, roads(road{0, 1, 1}, road{0, 2, 1}, road{0, 3, 5}, road{2, 3, 2}), 2, &s)
	checkLevels(t, l, [2]int{0, 1})
	checkEdges(t, l, 1, to(0, 1, 0, -1), to(2, 2, 0, 0), to(3, 6, 0, 0))
	checkEdges(t, l, 2, to(0, 1, 0, -1), to(1, 2, 0, 0), to(3, 2, 0, -1))
	checkEdges(t, l, 3, to(0, 5, 0, -1), to(1, 6, 0, 0), to(2, 2, 0, -1))
	checkCounts(t, l, 2, 2)
	// The same from 2 to 3, whose turn comes later.
	l = checkRoads(t, roads(road{0, 1, 1}, road{0, 2, 1}, road{0, 3, 5}, road{1, 3, 2}), 2, &s)
	checkEdges(t, l, 2, to(0, 1, 0, -1), to(1, 2, 0, 0), to(3, 6, 0, 0))
	checkCounts(t, l, 2, 2)
}

// K2, K3: an edge is added in the place of one that costs more, of the graph's or added itself, and there is one each.
func TestInThePlace(t *testing.T) {
	var s seen
	l := checkRoads(t, roads(road{0, 1, 1}, road{0, 2, 1}, road{1, 2, 9}), 2, &s)
	checkCounts(t, l, 2, 1)
	checkEdges(t, l, 1, to(0, 1, 0, -1), to(2, 2, 0, 0))
	checkEdges(t, l, 2, to(0, 1, 0, -1), to(1, 2, 0, 0))
	checkWay(t, l, 1, 0, 2)
	if s.replaced != 1 {
		t.Errorf("replaced %d times, want 1", s.replaced)
	}
	// 0 leaves an edge from 2 to 3 behind that costs 6; then 1 goes, over which it costs 4.
	l = checkRoads(t, roads(road{0, 1, 1}, road{0, 2, 1}, road{0, 3, 5}, road{1, 3, 2}), 3, &s)
	checkCounts(t, l, 3, 2)
	checkEdges(t, l, 2, to(0, 1, 0, -1), to(1, 2, 0, 0), to(3, 4, 0, 1))
	checkEdges(t, l, 3, to(0, 5, 0, -1), to(1, 2, 0, -1), to(2, 4, 0, 1))
	checkWay(t, l, 2, 0, 1, 3)
	if s.replaced != 2 {
		t.Errorf("replaced %d times, want 2", s.replaced)
	}
}

// K3: an edge that was added over others that were added, on either side.
func TestUnpackDeep(t *testing.T) {
	var s seen
	row := map[int][]api.Edge{}
	// In the first round 1 to 4 go, then 5 and 6, then 7.
	names := []int{8, 1, 5, 2, 7, 3, 6, 4, 9}
	for i, n := range names[1:] {
		addRoad(row, names[i], n, api.Cost{S: i, D: 1})
	}
	addRoad(row, 8, 10, api.Cost{S: 90})
	addRoad(row, 9, 11, api.Cost{S: 90})
	l := checkRoads(t, row, api.MaxLevel, &s)
	checkLevels(t, l, [2]int{1, 1}, [2]int{4, 1}, [2]int{10, 1}, [2]int{11, 1}, [2]int{5, 2}, [2]int{6, 2}, [2]int{7, 3})
	checkWay(t, l, names[:3]...)
	checkWay(t, l, names[:5]...)
	checkWay(t, l, names[4:]...)
	checkWay(t, l, names...)
	checkEdges(t, l, 8, to(1, 0, 1, -1), to(5, 1, 2, 1), to(7, 6, 4, 5), to(9, 28, 8, 7), to(10, 90, 0, -1))
	checkNoWay(t, l, 8, 2)
	checkNoWay(t, l, 8, 6)
	checkNoWay(t, l, 10, 9)
	checkNoWay(t, l, 8, 8)
}

// K1: edges by where they lead, wherever those belong that are added: ahead of all others, between, and behind.
func TestOrder(t *testing.T) {
	var s seen
	l := checkRoads(t, roads(road{1, 5, 1}, road{1, 2, 1}, road{5, 4, 7}, road{5, 8, 7}, road{0, 5, 1}, road{0, 9, 1}, road{3, 5, 1}, road{3, 6, 1}), 2, &s)
	checkEdges(t, l, 5, to(0, 1, 0, -1), to(1, 1, 0, -1), to(2, 2, 0, 1), to(3, 1, 0, -1), to(4, 7, 0, -1), to(6, 2, 0, 3), to(8, 7, 0, -1), to(9, 2, 0, 0))
	checkEdges(t, l, 9, to(0, 1, 0, -1), to(5, 2, 0, 0))
}

// K1 to K3: all walls of 4 x 3 cells, by the words.
func TestAllSmall(t *testing.T) {
	var s seen
	for walls := range 1 << 12 {
		g := free(t, 4, 3)
		for cell := range 12 {
			if walls>>cell&1 == 1 {
				setGrid(t, g, cell, true)
			}
		}
		if !checkGrid(t, g, 1+walls%api.MaxLevel, &s) || !checkGrid(t, g, api.MaxLevel, &s) {
			t.Fatalf("walls %b", walls)
		}
	}
}

// K1 to K3: drawn grids of all sizes, by the words; all that may come about on a grid does.
func TestDrawn(t *testing.T) {
	var s seen
	d := die(11)
	for range 600 {
		if !checkGrid(t, plotOf(t, &d, 1+d.n(10), 1+d.n(10)), 1+d.n(api.MaxLevel), &s) {
			return
		}
	}
	for range 8 {
		if !checkGrid(t, plotOf(t, &d, api.MaxSide, api.MaxSide), api.MaxLevel, &s) {
			return
		}
	}
	for _, k := range []int{s.skipped, s.even, s.oneMore, s.ties, s.dearer, s.alone, s.empty, s.full} {
		if k == 0 {
			t.Errorf("not all came about: %+v", s)
		}
	}
}

// K1 to K3: drawn edges of any costs, by the words: here edges are replaced, too.
func TestDrawnRoads(t *testing.T) {
	var s seen
	d := die(12)
	for range 1500 {
		nodes := 2 + d.n(12)
		edges := map[int][]api.Edge{}
		for range nodes + d.n(2*nodes) {
			addRoad(edges, d.n(nodes), d.n(nodes), api.Cost{S: d.n(6), D: d.n(4)})
		}
		checkRoads(t, edges, 1+d.n(api.MaxLevel), &s)
		if t.Failed() {
			return
		}
	}
	for _, k := range []int{s.skipped, s.even, s.oneMore, s.ties, s.dearer, s.alone, s.replaced, s.empty, s.full} {
		if k == 0 {
			t.Errorf("not all came about: %+v", s)
		}
	}
}

// pillars: the greatest grid, with walls at each second place of each second row.
func pillars(t *testing.T) *grid.Grid {
	t.Helper()
	g := free(t, api.MaxSide, api.MaxSide)
	for cell := range g.Cells() {
		if cell%api.MaxSide%2 == 1 && cell/api.MaxSide%2 == 1 {
			setGrid(t, g, cell, true)
		}
	}
	return g
}

// K1 to K3: many corners.
func TestMany(t *testing.T) {
	var s seen
	for most := 1; most <= api.MaxLevel; most++ {
		checkGrid(t, pillars(t), most, &s)
	}
}

// costsFrom a corner over edges that fit, to all that are come to.
func costsFrom(l *Levels, from int, fits func(n int, e api.Edge) bool) map[int]api.Cost {
	known := map[int]api.Cost{from: {}}
	for work := []int{from}; len(work) > 0; work = work[1:] {
		edges, _ := l.Edges(work[0])
		for _, e := range edges {
			by := cost.Add(known[work[0]], e.C)
			old, was := known[e.To]
			if fits(work[0], e) && (!was || cost.Less(by, old)) {
				known[e.To] = by
				work = append(work, e.To)
			}
		}
	}
	return known
}

// meet: what the way between two corners costs that goes on only to greater levels (or from Top to Top) from both ends.
func meet(up map[int]map[int]api.Cost, a, b int) (api.Cost, bool) {
	var best api.Cost
	found := false
	for n, c := range up[a] {
		rest, both := up[b][n]
		if sum := cost.Add(c, rest); both && (!found || cost.Less(sum, best)) {
			best, found = sum, true
		}
	}
	return best, found
}

// W3: however many levels there are, over them it is as far as over the graph; on ways that only go up, and then down, too.
func TestAsFar(t *testing.T) {
	d := die(13)
	for range 60 {
		g := plotOf(t, &d, 1+d.n(12), 1+d.n(12))
		nodes, most := graph.New(g).Nodes(), 1+d.n(api.MaxLevel)
		plain, l := laidOf(t, g, 1), laidOf(t, g, most)
		up := map[int]map[int]api.Cost{}
		for _, n := range nodes {
			up[n] = costsFrom(l, n, func(n int, e api.Edge) bool {
				return l.level[e.To] > l.level[n] || l.level[n] == l.top && l.level[e.To] == l.top
			})
		}
		for _, a := range nodes {
			want := costsFrom(plain, a, func(int, api.Edge) bool { return true })
			got := costsFrom(l, a, func(int, api.Edge) bool { return true })
			for _, b := range nodes {
				c, can := want[b]
				over, can2 := got[b]
				met, can3 := meet(up, a, b)
				if c != over || can != can2 || c != met || can != can3 {
					t.Fatalf("most %d: from %d to %d: %v %v over the graph, %v %v over levels, %v %v up and down", most, a, b, c, can, over, can2, met, can3)
				}
			}
		}
	}
}

// K1 to K3: of each edge: one leads back, that is the same; unpacked it is edges of the graph that cost as much; its ends aren't of one level, but for Top.
func TestEachEdge(t *testing.T) {
	d := die(14)
	for range 120 {
		g := plotOf(t, &d, 1+d.n(api.MaxSide), 1+d.n(api.MaxSide))
		plain, l := laidOf(t, g, 1), laidOf(t, g, 1+d.n(api.MaxLevel))
		for n := range l.edges {
			edges, _ := l.Edges(n)
			for _, e := range edges {
				checkEdge(t, plain, l, n, e)
			}
		}
	}
}

func checkEdge(t *testing.T, plain, l *Levels, n int, e api.Edge) {
	t.Helper()
	back, _ := l.Edges(e.To)
	if !slices.Contains(back, api.Edge{To: n, C: e.C, Mid: e.Mid}) {
		t.Errorf("from %d %v, but back %v", n, e, back)
	}
	if l.level[n] == l.level[e.To] && l.level[n] != l.Top() {
		t.Errorf("from %d %v, both of level %d", n, e, l.level[n])
	}
	way, err := l.Unpack(n, e.To)
	if err != nil || len(way) < 2 || way[0] != n || way[len(way)-1] != e.To {
		t.Fatalf("Unpack(%d, %d) = %v, %v", n, e.To, way, err)
	}
	if (e.Mid < 0) != (len(way) == 2) || e.Mid >= 0 && !slices.Contains(way[1:len(way)-1], e.Mid) {
		t.Errorf("Unpack(%d, %d) = %v, of %v", n, e.To, way, e)
	}
	var sum api.Cost
	for i, m := range way[1:] {
		edges, _ := plain.Edges(way[i])
		at, is := place(edges, m)
		if !is {
			t.Fatalf("Unpack(%d, %d) = %v: no edge from %d to %d", n, e.To, way, way[i], m)
		}
		sum = cost.Add(sum, edges[at].C)
	}
	if sum != e.C {
		t.Errorf("Unpack(%d, %d) = %v costs %v, of %v", n, e.To, way, sum, e)
	}
}

// K1: the graph as it was then: what is set in it later, or in its grid, changes no level; and New changes nothing of the graph.
func TestApart(t *testing.T) {
	g := drawn(t, "......", ".@@@..", ".@....", "....@.", "......")
	r := graph.New(g)
	before := fmt.Sprint(r.Nodes(), edgesOf(r), r.Grid().Version())
	l, err := New(r, 3)
	if err != nil {
		t.Fatal(err)
	}
	if after := fmt.Sprint(r.Nodes(), edgesOf(r), r.Grid().Version()); after != before {
		t.Errorf("the graph was %s, is %s", before, after)
	}
	was := told(t, l, g.Cells())
	for _, cell := range []int{0, 9, 20, 28} {
		if _, err := r.Set(cell, true); err != nil {
			t.Fatal(err)
		}
		_, _ = g.Set(cell, true)
		checkLines(t, told(t, l, g.Cells()), was)
	}
	again, _ := New(r, 3)
	checkLines(t, told(t, again, g.Cells()), told(t, laidOf(t, r.Grid(), 3), g.Cells()))
	checkLines(t, told(t, l, g.Cells()), was)
}

// Z2: what is given out is the caller's: written into, and behind, it changes nothing; and no two lists share memory.
func TestGivenOut(t *testing.T) {
	g := plotOf(t, new(die), 12, 12)
	l := laidOf(t, g, api.MaxLevel)
	was := told(t, l, g.Cells())
	if l.Added() == 0 {
		t.Fatal("no edge was added")
	}
	for n := range l.level {
		edges, _ := l.Edges(n)
		twin, _ := l.Edges(n)
		for _, e := range slices.Clone(edges) {
			way, _ := l.Unpack(n, e.To)
			spoil(way, -7)
		}
		kept := slices.Clone(twin)
		spoil(edges, api.Edge{To: -7, C: api.Cost{S: -7}, Mid: -7})
		if !slices.Equal(twin, kept) {
			t.Errorf("Edges(%d) twice: they share memory", n)
		}
	}
	checkLines(t, told(t, l, g.Cells()), was)
}

// spoil a list, and what stands behind it.
func spoil[T any](list []T, x T) {
	list = list[:cap(list)]
	for i := range list {
		list[i] = x
	}
}

// Z2, W4: asks change nothing: levels laid again are the same, and all at once they are told the same.
func TestAllAtOnce(t *testing.T) {
	g := pillars(t)
	r := graph.New(g)
	l, _ := New(r, 4)
	was := told(t, l, g.Cells())
	checkLines(t, told(t, l, g.Cells()), was)
	out := make([]string, 8)
	var all sync.WaitGroup
	for i := range out {
		all.Go(func() { out[i] = strconv.Itoa(l.Added()) + told(t, l, g.Cells()) })
	}
	all.Wait()
	for range 10 {
		again, _ := New(r, 4)
		out = append(out, strconv.Itoa(again.Added())+told(t, again, g.Cells()))
	}
	for _, s := range out {
		checkLines(t, s, strconv.Itoa(l.Added())+was)
	}
}
