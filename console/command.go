package console

import (
	"strconv"
	"strings"

	"fellrunner/api"
	"fellrunner/nav"
)

// action of a line, by its numbers and its text: the answer.
type action func(numbers []int, text string) (string, error)

// command: what the lines that begin with its name may say, and what they do.
type command struct {
	// count of its numbers, or anyCount.
	count int
	// hasText: all behind its first number and a blank is a text.
	hasText bool
	do      action
}

// anyCount of numbers is right.
const anyCount = -1

// commandsOf a session, by their names.
func commandsOf(s *session) map[string]command {
	return map[string]command{
		"new": {count: 3, do: func(n []int, _ string) (string, error) {
			return s.begin(nav.New(n[0], n[1], n[2]))
		}},
		"load": {count: 1, hasText: true, do: func(n []int, text string) (string, error) {
			return s.begin(nav.Load(strings.ReplaceAll(text, "/", "\n"), n[0]))
		}},
		"block": {count: anyCount, do: s.with(edit(true))},
		"free":  {count: anyCount, do: s.with(edit(false))},
		"look":  {count: 2, do: s.with(look)},
		"ask":   {count: 2, do: s.with(ask)},
		"batch": {count: anyCount, do: s.with(batch)},
		"stats": {count: 0, do: s.with(stats)},
		"save":  {count: 0, do: s.with(save)},
	}
}

// read what is behind the name, if there is more than that: the numbers and the text; false: a line may not be so.
func (c command) read(rest string, more bool) ([]int, string, bool) {
	var text string
	if c.hasText {
		rest, text, _ = strings.Cut(rest, " ")
	}
	var words []string
	if more {
		words = strings.Split(rest, " ")
	}
	numbers, ok := readNumbers(words)
	return numbers, text, ok && (c.count == anyCount || c.count == len(numbers))
}

// edit cells, all of which are to be blocked, or free.
func edit(blocked bool) func(x *nav.Service, cells []int) (string, error) {
	return func(x *nav.Service, cells []int) (string, error) {
		var edits []api.Edit
		for _, cell := range cells {
			edits = append(edits, api.Edit{Cell: cell, Blocked: blocked})
		}
		changed, err := x.Edit(edits)
		return strconv.Itoa(changed), err
	}
}

func look(x *nav.Service, n []int) (string, error) {
	steps, err := x.Look(n[0], n[1])
	return strconv.Itoa(steps), err
}

func ask(x *nav.Service, n []int) (string, error) {
	return tellAnswer(x.Ask(n[0], n[1])), nil
}

// batch of asks, two cells each. A line with an odd number of them still is one that wants a service, so that is asked for first.
func batch(x *nav.Service, cells []int) (string, error) {
	if len(cells)%2 != 0 {
		return "", api.ErrText
	}
	var asks []api.Ask
	for i := 0; i < len(cells); i += 2 {
		asks = append(asks, api.Ask{From: cells[i], To: cells[i+1]})
	}
	answers, err := x.Batch(asks)
	var told []string
	for _, a := range answers {
		told = append(told, tellAnswer(a))
	}
	return strings.Join(told, "; "), err
}

func stats(x *nav.Service, _ []int) (string, error) {
	s := x.Stats()
	return tellList([]int{s.Cells, s.Free, s.Nodes, s.Edges, s.Added, s.Top, s.Version}), nil
}

func save(x *nav.Service, _ []int) (string, error) {
	return strings.ReplaceAll(x.Save(), "\n", "/"), nil
}
