package search

import (
	"fellrunner/api"
	"fellrunner/cost"
	"fellrunner/heap"
	"fellrunner/levels"
)

// By how many levels an edge leads up at least, if it is to be gone.
const (
	// along: only at the top two corners of one level have an edge between them.
	along = 0
	up    = 1
)

// side: what is known from one end of the ways on.
type side struct {
	l     *levels.Levels
	rise  int
	guess Guess
	// costs of the corners that were come to, the least that are known.
	costs map[int]api.Cost
	// ahead: the corner by which one was come to; those to which an edge from the end leads have none.
	ahead map[int]int
	// next: the corners from which to go on, by what a way over them costs at least.
	next *heap.Heap
}

// from an end of the ways its edges lead to corners; others lead nowhere.
func from(l *levels.Levels, edges []api.Edge, rise int, guess Guess) *side {
	s := &side{l: l, rise: rise, guess: guess, costs: map[int]api.Cost{}, ahead: map[int]int{}, next: heap.New()}
	for _, e := range edges {
		// One whose cost may not be is left out: sums of such may go round, and who goes on by them might not end.
		if _, err := l.Level(e.To); err == nil && cost.Check(e.C) == nil {
			s.lower(e.To, e.C)
		}
	}
	return s
}

// lower what a corner costs; false: it costs no more already.
func (s *side) lower(n int, c api.Cost) bool {
	if old, known := s.costs[n]; known && !cost.Less(c, old) {
		return false
	}
	s.costs[n] = c
	s.next.Push(n, cost.Add(c, s.guess(n)))
	return true
}

// goOn from a corner to those of greater levels, or as great ones, if it may be gone along.
func (s *side) goOn(n int) {
	// Only corners are come to, so there are no errors.
	level, _ := s.l.Level(n)
	edges, _ := s.l.Edges(n)
	for _, e := range edges {
		to, _ := s.l.Level(e.To)
		if to >= level+s.rise && s.lower(e.To, cost.Add(s.costs[n], e.C)) {
			s.ahead[e.To] = n
		}
	}
}

// back from a corner to the end from which it was come to.
func (s *side) back(n int) []int {
	corners := []int{n}
	for before, more := s.ahead[n]; more; before, more = s.ahead[before] {
		corners = append(corners, before)
	}
	return corners
}
