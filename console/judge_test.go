package console

import (
	"fmt"
	"regexp"
	"slices"
	"strconv"
	"strings"
	"testing"

	"fellrunner/api"
	"fellrunner/clear"
	"fellrunner/flood"
	"fellrunner/graph"
	"fellrunner/grid"
	"fellrunner/levels"
	"fellrunner/text"
)

// die: numbers that look drawn, the same each time.
type die uint64

func (d *die) n(most int) int {
	*d = *d*6364136223846793005 + 1442695040888963407
	return int(uint64(*d>>33) % uint64(most))
}

// run lines; there is to be no error, and an answer to each.
func run(t *testing.T, lines ...string) []string {
	t.Helper()
	answers, err := Run(lines)
	if err != nil || len(answers) != len(lines) {
		t.Fatalf("Run(%.300q): %d answers, %v", lines, len(answers), err)
	}
	return answers
}

// check pairs of a line and its answer, as one session; they are held against the judge, too.
func check(t *testing.T, pairs ...string) {
	t.Helper()
	var lines []string
	for i := 0; i < len(pairs); i += 2 {
		lines = append(lines, pairs[i])
	}
	for i, got := range run(t, lines...) {
		if want := pairs[2*i+1]; withoutWays(got) != withoutWays(want) {
			t.Errorf("behind %.200q: %.200q => %q, want %q", lines[:i], lines[i], got, want)
		}
	}
	checkJudged(t, lines)
}

// withoutWays: what is told of costs and all else; which one of several ways is told is free.
func withoutWays(answer string) string {
	parts := strings.Split(answer, "; ")
	for i, part := range parts {
		parts[i], _, _ = strings.Cut(part, ": ")
	}
	return strings.Join(parts, "; ")
}

// judge: the chapter's words, done plainly over floods; lines are told apart by what they look like.
type judge struct {
	g       *grid.Grid
	most    int
	version int
}

const num = `(-1|0|[1-9][0-9]{0,3})`

var (
	newLine   = regexp.MustCompile(`^new ` + num + ` ` + num + ` ` + num + `$`)
	loadLine  = regexp.MustCompile(`(?s)^load ` + num + `(?: (.*))?$`)
	editLine  = regexp.MustCompile(`^(block|free)((?: ` + num + `)*)$`)
	pairLine  = regexp.MustCompile(`^(look|ask) ` + num + ` ` + num + `$`)
	batchLine = regexp.MustCompile(`^batch((?: ` + num + `)*)$`)
	bareLine  = regexp.MustCompile(`^(stats|save)$`)
)

func mistake(n api.Errno) string { return fmt.Sprintf("error %d", n) }

func ints(s string) []int {
	var l []int
	for _, word := range strings.Fields(s) {
		n, _ := strconv.Atoi(word)
		l = append(l, n)
	}
	return l
}

func list(numbers ...int) string {
	return strings.Trim(fmt.Sprint(numbers), "[]")
}

// answer to a line, without ways.
func (j *judge) answer(line string) string {
	if len(line) > api.MaxLine {
		return mistake(api.ErrText)
	}
	if m := newLine.FindStringSubmatch(line); m != nil {
		l := ints(strings.Join(m[1:], " "))
		g, err := grid.New(l[0], l[1])
		return j.begin(g, err, l[2])
	}
	if m := loadLine.FindStringSubmatch(line); m != nil {
		g, err := text.Parse(strings.Join(strings.Split(m[2], "/"), "\n"))
		return j.begin(g, err, ints(m[1])[0])
	}
	edits, pair, many := editLine.FindStringSubmatch(line), pairLine.FindStringSubmatch(line), batchLine.FindStringSubmatch(line)
	switch bare := bareLine.MatchString(line); {
	case edits == nil && pair == nil && many == nil && !bare:
		return mistake(api.ErrText)
	case j.g == nil:
		return mistake(api.ErrState)
	case edits != nil:
		return j.edit(ints(edits[2]), edits[1] == "block")
	case pair != nil:
		return j.pair(pair[1], ints(pair[2])[0], ints(pair[3])[0])
	case many != nil:
		return j.batch(ints(many[1]))
	case line == "stats":
		return j.stats()
	}
	return strings.Join(strings.Split(text.Print(j.g), "\n"), "/")
}

func (j *judge) begin(g *grid.Grid, err error, most int) string {
	if err != nil {
		return mistake(err.(api.Errno))
	}
	if most < 1 || most > api.MaxLevel {
		return mistake(api.ErrBound)
	}
	j.g, j.most, j.version = g, most, g.Version()
	return "ok"
}

func (j *judge) edit(cells []int, blocked bool) string {
	if len(cells) > api.MaxEdits {
		return mistake(api.ErrMany)
	}
	changed := 0
	trial := j.g.Copy()
	for _, cell := range cells {
		did, err := trial.Set(cell, blocked)
		if err != nil {
			return mistake(err.(api.Errno))
		}
		if did {
			changed++
		}
	}
	j.g, j.version = trial, j.version+changed
	return list(changed)
}

func (j *judge) pair(name string, a, b int) string {
	if name == "ask" {
		return j.cost(a, b)
	}
	n, err := clear.New(j.g).Steps(a, b)
	if err != nil {
		return mistake(err.(api.Errno))
	}
	return list(n)
}

// cost of the way between two cells, or what is wrong with them.
func (j *judge) cost(from, to int) string {
	f, err := flood.From(j.g, from)
	if err != nil {
		return mistake(err.(api.Errno))
	}
	if free, err := j.g.Free(to); err != nil {
		return mistake(api.ErrBound)
	} else if !free {
		return mistake(api.ErrBlocked)
	}
	c, err := f.Cost(to)
	if err != nil {
		return mistake(err.(api.Errno))
	}
	return list(c.S, c.D)
}

func (j *judge) batch(cells []int) string {
	if len(cells)%2 == 1 {
		return mistake(api.ErrText)
	}
	if len(cells)/2 > api.MaxBatch {
		return mistake(api.ErrMany)
	}
	var answers []string
	for pair := range slices.Chunk(cells, 2) {
		answers = append(answers, j.cost(pair[0], pair[1]))
	}
	return strings.Join(answers, "; ")
}

func (j *judge) stats() string {
	r := graph.New(j.g)
	l, err := levels.New(r, j.most)
	if err != nil {
		return err.Error()
	}
	ends := 0
	for _, n := range r.Nodes() {
		edges, _ := r.Edges(n)
		ends += len(edges)
	}
	free := strings.Count(text.Print(j.g), ".")
	return list(j.g.Cells(), free, len(r.Nodes()), ends/2, l.Added(), l.Top(), j.version)
}

// checkWays: each way that is told leads from the one cell to the other, and costs what is told.
func (j *judge) checkWays(t *testing.T, line, answer string) {
	t.Helper()
	cells := ints(strings.TrimLeft(line, "askbtch"))
	if len(cells) == 0 {
		return
	}
	for i, part := range strings.Split(answer, "; ") {
		told, tail, found := strings.Cut(part, ": ")
		if !found {
			continue
		}
		way := ints(tail)
		c, err := flood.Walk(j.g, way)
		if err != nil || told != list(c.S, c.D) || tail != list(way...) {
			t.Errorf("%q => %q: walked: %v, %v", line, part, c, err)
			continue
		}
		if way[0] != cells[2*i] || way[len(way)-1] != cells[2*i+1] {
			t.Errorf("%q => %q: it leads from another cell, or to one", line, part)
		}
	}
}

// checkJudged: a session's answers are those of the judge, and its ways lead where they should.
func checkJudged(t *testing.T, lines []string) {
	t.Helper()
	j := &judge{}
	for i, got := range run(t, lines...) {
		want := j.answer(lines[i])
		if strings.HasPrefix(lines[i], "ask ") || strings.HasPrefix(lines[i], "batch ") {
			j.checkWays(t, lines[i], got)
			checkTold(t, lines[i], got)
			got = withoutWays(got)
		}
		if got != want {
			t.Fatalf("behind %.900q: %.200q => %q, want %q", lines[:i], lines[i], got, want)
		}
	}
}

// checkTold: an answer to ask or batch has a way just where it has no error.
func checkTold(t *testing.T, line, answer string) {
	t.Helper()
	for _, part := range strings.Split(answer, "; ") {
		_, _, found := strings.Cut(part, ": ")
		if found == strings.HasPrefix(part, "error ") {
			t.Errorf("%q => %q", line, answer)
		}
	}
}
