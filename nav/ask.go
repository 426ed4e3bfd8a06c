package nav

import (
	"fellrunner/api"
	"fellrunner/cost"
	"fellrunner/grid"
	"fellrunner/reach"
	"fellrunner/search"
)

// Ask for a way.
func (s *Service) Ask(from, to int) api.Answer {
	g := s.graph.Grid()
	way, err := reach.Way(g, from, to)
	switch err {
	case nil:
		// None can cost less than one that is as short as if nothing were in the way.
		return api.Answer{Way: way, C: guessTo(g, to)(from)}
	case api.ErrNone:
		return s.overCorners(g, from, to)
	}
	return api.Answer{Err: number(err)}
}

// Batch of asks: the answers, one by one.
func (s *Service) Batch(l []api.Ask) ([]api.Answer, error) {
	if len(l) > api.MaxBatch {
		return nil, api.ErrMany
	}
	var answers []api.Answer
	for _, a := range l {
		answers = append(answers, s.Ask(a.From, a.To))
	}
	return answers, nil
}

// overCorners: the answer for two cells that are free, and not near, so that a way between them that costs least turns at corners.
func (s *Service) overCorners(g *grid.Grid, from, to int) api.Answer {
	// Both are free, so there are no errors.
	out, _ := s.graph.Connect(from)
	in, _ := s.graph.Connect(to)
	corners, c, found := search.Best(s.levels, out, in, guessTo(g, to))
	if !found {
		return api.Answer{Err: api.ErrNone}
	}
	return api.Answer{Way: join(g, from, append(corners, to)), C: c}
}

// guessTo a cell what is left: as much as if nothing were in the way. No step, so no edge either, brings one nearer by more than it costs.
func guessTo(g *grid.Grid, to int) search.Guess {
	// It was checked, so it has a place, and so has each corner.
	tx, ty, _ := g.Place(to)
	return func(n int) api.Cost {
		x, y, _ := g.Place(n)
		return cost.Octile(x, y, tx, ty)
	}
}

// join the ways from a cell to the first one of some, and from each of these to the next one, to a way, cell by cell.
func join(g *grid.Grid, from int, stops []int) []int {
	way := []int{from}
	for _, stop := range stops {
		// They are directly near, so there is a way; one that leads from a cell to itself adds none.
		part, _ := reach.Way(g, from, stop)
		way = append(way, part[1:]...)
		from = stop
	}
	return way
}

// number of an error; each is a bare one of package api.
func number(err error) api.Errno {
	n, _ := err.(api.Errno)
	return n
}
