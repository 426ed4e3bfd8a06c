package levels

import (
	"slices"

	"fellrunner/api"
	"fellrunner/cost"
	"fellrunner/heap"
)

// none: the level of a corner that hasn't got one yet.
const none = 0

// link: an edge that is needed between two corners, if one between them is passed over.
type link struct {
	a, b int
	c    api.Cost
}

// over edges, by the corner from which they lead, levels are laid, so many at most. The edges are kept.
func over(edges map[int][]api.Edge, most int) *Levels {
	l := &Levels{top: 1, level: map[int]int{}, edges: edges}
	for n := range edges {
		l.level[n] = none
	}
	for l.top < most && l.round() {
		l.top++
	}
	for _, n := range l.open() {
		l.level[n] = l.top
	}
	return l
}

// round: corners get the level that is the top one now; false: none got it.
func (l *Levels) round() bool {
	skipped := map[int]struct{}{}
	some := false
	for _, n := range l.open() {
		if _, skip := skipped[n]; skip {
			continue
		}
		near := find(l.edges[n], func(e api.Edge) bool { return l.isOpen(e.To) })
		needed := l.needed(n, near)
		if len(needed) > len(near) {
			continue
		}
		l.level[n], some = l.top, true
		for _, e := range near {
			skipped[e.To] = struct{}{}
		}
		// Only now, as none of them is to count as a way for another one.
		for _, k := range needed {
			l.put(k.a, api.Edge{To: k.b, C: k.c, Mid: n})
			l.put(k.b, api.Edge{To: k.a, C: k.c, Mid: n})
		}
	}
	return some
}

// isOpen: has a corner no level yet?
func (l *Levels) isOpen(n int) bool { return l.level[n] == none }

// open: the corners that have no level yet, rising.
func (l *Levels) open() []int {
	var open []int
	for n, level := range l.level {
		if level == none {
			open = append(open, n)
		}
	}
	slices.Sort(open)
	return open
}

// needed: the links between the ends of a corner's edges that it would leave behind.
func (l *Levels) needed(n int, near []api.Edge) []link {
	var needed []link
	for i, a := range near {
		others := near[i+1:]
		around := l.distances(a.To, n, cost.Add(a.C, greatest(others)))
		for _, b := range others {
			both := cost.Add(a.C, b.C)
			if c, found := around[b.To]; !found || cost.Less(both, c) {
				needed = append(needed, link{a.To, b.To, both})
			}
		}
	}
	return needed
}

// greatest cost of some edges.
func greatest(edges []api.Edge) api.Cost {
	var most api.Cost
	for _, e := range edges {
		if cost.Less(most, e.C) {
			most = e.C
		}
	}
	return most
}

// distances from a corner over those that have no level yet, without one of them, as far as they are no more than most.
func (l *Levels) distances(from, without int, most api.Cost) map[int]api.Cost {
	known := map[int]api.Cost{}
	next := heap.New()
	next.Push(from, api.Cost{})
	for n, c, more := next.Pop(); more && !cost.Less(most, c); n, c, more = next.Pop() {
		known[n] = c
		ahead := find(l.edges[n], func(e api.Edge) bool {
			_, been := known[e.To]
			return !been && e.To != without && l.isOpen(e.To)
		})
		for _, e := range ahead {
			next.Push(e.To, cost.Add(c, e.C))
		}
	}
	return known
}

// put an edge of a corner where it belongs, in the place of one that leads there, too.
func (l *Levels) put(from int, e api.Edge) {
	edges := l.edges[from]
	at, there := place(edges, e.To)
	if there {
		edges[at] = e
		return
	}
	l.edges[from] = slices.Insert(edges, at, e)
}
