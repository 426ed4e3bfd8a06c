package console

import (
	"fmt"
	"slices"
	"strings"
	"sync"
	"testing"

	"fellrunner/api"
)

// N1, M1: new: sizes and levels that may be, and that may not.
func TestNew(t *testing.T) {
	check(t,
		"new 1 1 1", "ok", "save", "type octile/height 1/width 1/map/./",
		"new 16 16 6", "ok", "stats", "256 256 0 0 0 1 0",
		"new 2 3 4", "ok", "save", "type octile/height 3/width 2/map/../../../",
		"new 0 1 1", "error 1", "new 1 0 1", "error 1", "new 1 1 0", "error 1",
		"new 17 1 1", "error 1", "new 1 17 1", "error 1", "new 1 1 7", "error 1",
		"new -1 1 1", "error 1", "new 1 -1 1", "error 1", "new 1 1 -1", "error 1",
		"new 9999 9999 9999", "error 1",
		"save", "type octile/height 3/width 2/map/../../../",
	)
	for w := 0; w <= api.MaxSide+1; w++ {
		var lines []string
		for h := 0; h <= api.MaxSide+1; h++ {
			lines = append(lines, fmt.Sprint("new ", w, " ", h, " ", h%8), "stats", "save", fmt.Sprint("ask 0 ", w*h-1))
		}
		checkJudged(t, lines)
	}
}

// N1, C2: load: with no blank behind MOST, with an empty map, with one that is none; the map's error ahead of that of the levels.
func TestLoad(t *testing.T) {
	const good = "type octile/height 2/width 3/map/.@./.../"
	check(t,
		"load", "error 3",
		"load ", "error 3",
		"load  ", "error 3",
		"load 2", "error 3",
		"load 2 ", "error 3",
		"load 2  ", "error 3",
		"load 9", "error 3",
		"load 9 ", "error 3",
		"stats", "error 8",
		"load 2 "+good, "ok",
		"save", good,
		"load 2 x", "error 3",
		"load 2 /", "error 3",
		"load 2  "+good, "error 3",
		"load  2 "+good, "error 3",
		"load 2 "+good+" ", "error 3",
		"load 2 "+good+"/", "error 3",
		"load 2 "+good[:len(good)-1], "error 3",
		"load 2/"+good, "error 3",
		"load 2"+good, "error 3",
		"load "+good, "error 3",
		"load 02 "+good, "error 3",
		"load 10000 "+good, "error 3",
		"load 0 "+good, "error 1",
		"load 7 "+good, "error 1",
		"load -1 "+good, "error 1",
		"load 9999 "+good, "error 1",
		"load 0 x", "error 3",
		"load 0 type octile/height 17/width 1/map/", "error 1",
		"load 1 type octile/height 17/width 1/map/", "error 1",
		"load 1 type octile/height 1/width 0/map/", "error 1",
		"load 1 type octile/height 1/width 1/map/x/", "error 3",
		"load 1 type octile/height 01/width 1/map/./", "error 3",
		"load 1 type  octile/height 1/width 1/map/./", "error 3",
		"stats", "6 5 2 1 0 2 1",
		"load 1 type octile/height 2/width 4/map/.GS./@OTW/", "ok",
		"save", "type octile/height 2/width 4/map/..../@@@@/",
		"stats", "8 4 0 0 0 1 4",
	)
}

// N1: each '/' stands for an end of a line, and nothing else does.
func TestEndsOfLines(t *testing.T) {
	const good = "type octile/height 2/width 3/map/.@./.../"
	for i := range len(good) {
		if good[i] != '/' {
			continue
		}
		for _, end := range []string{"\\", "\r", "\\n", " ", "", "//", "|", ";", "\n/", "\r/"} {
			if got := run(t, "load 2 "+good[:i]+end+good[i+1:], "stats"); got[0] != "error 3" || got[1] != "error 8" {
				t.Errorf("%q at %d => %q", end, i, got)
			}
		}
	}
	for h := 1; h <= api.MaxSide; h++ {
		saved := run(t, fmt.Sprint("new 3 ", h, " 1"), "save")[1]
		if strings.Contains(saved, "\n") || strings.Count(saved, "/") != 4+h {
			t.Errorf("save => %q", saved)
		}
	}
}

// W7: what save tells is loaded again, and saved the same, and answers the same.
func TestSavedIsLoaded(t *testing.T) {
	d := die(131)
	for range 60 {
		w, h, most := 1+d.n(api.MaxSide), 1+d.n(api.MaxSide), 1+d.n(api.MaxLevel)
		first := []string{fmt.Sprint("new ", w, " ", h, " ", most)}
		for range 3 {
			line := "block"
			for range d.n(api.MaxEdits + 1) {
				line += fmt.Sprint(" ", d.n(w*h))
			}
			first = append(first, line)
		}
		var asks []string
		for range 20 {
			asks = append(asks, fmt.Sprint("ask ", d.n(w*h), " ", d.n(w*h)), fmt.Sprint("look ", d.n(w*h), " ", d.n(8)))
		}
		one := run(t, slices.Concat(first, []string{"save"}, asks)...)
		saved := one[len(first)]
		other := run(t, slices.Concat([]string{fmt.Sprint("load ", most, " ", saved), "save"}, asks)...)
		if other[0] != "ok" || other[1] != saved {
			t.Fatalf("%q loaded => %q, saved => %q", saved, other[0], other[1])
		}
		if got, want := other[2:], one[len(first)+1:]; !slices.Equal(got, want) {
			t.Fatalf("%q loaded: %q => %q, was %q", saved, asks, got, want)
		}
	}
}

// N2: lines that want a service, while there is none: error 8; those that may not be so are told as such all the same, but for an odd batch, which is a line that may be.
func TestNoService(t *testing.T) {
	for _, line := range []string{"block", "block 1", "block" + numbers(api.MaxEdits+1), "block -1", "free", "free 9999", "look 0 0", "look -1 9", "ask 0 0", "ask -1 -1", "batch", "batch 0 0", "batch" + strings.Repeat(" 1", 2*api.MaxBatch+2), "batch 1", "batch 1 2 3", "stats", "save"} {
		check(t, line, "error 8", line, "error 8", "new 0 0 0", "error 1", line, "error 8", "load 1 x", "error 3", line, "error 8")
	}
	for _, line := range []string{"", "fly", "block x", "free 01", "block ", "look", "look 0", "look 0 0 0", "look 00 0", "ask", "ask 0", "ask 0 0 0", "ask 0 +1", "batch ", "batch 0 x", "batch 01", "stats 1", "stats ", "save 1", "save ", "new", "new 1 1", "load", "load x", strings.Repeat("save ", 221)} {
		check(t, line, "error 3", "new 2 2 1", "ok", line, "error 3")
	}
}

// N2: new and load that answer an error: the service stays, with all that was changed in it.
func TestServiceStays(t *testing.T) {
	lines := []string{"new 4 3 2", "block 5 6", "free 6", "stats", "save", "ask 4 6"}
	want := run(t, lines...)[3:]
	for _, wrong := range []string{"new 0 1 1", "new 1 1 0", "new 1 1 7", "new 17 17 1", "new 1 1", "new 1 1 1 1", "new 1 1 1 ", "load", "load 1", "load 1 ", "load 1 x", "load 0 type octile/height 1/width 1/map/./", "load 7 type octile/height 1/width 1/map/./", "load 1 type octile/height 17/width 1/map/./", "load 1 " + strings.Repeat("/", 1001), padded(1, 1101), "block 0 99", "free 5 -1", "block" + numbers(api.MaxEdits+1), "ask 5 0", "look 0 8", "batch 1", "fly", ""} {
		got := run(t, slices.Concat(lines[:3], []string{wrong}, lines[3:])...)
		if !strings.HasPrefix(got[3], "error ") || !slices.Equal(got[4:], want) {
			t.Errorf("%.200q => %q, then %q, want %q", wrong, got[3], got[4:], want)
		}
	}
}

// N1: a new service takes the place of the one that was, and has nothing of it.
func TestServiceAnew(t *testing.T) {
	check(t,
		"new 4 3 2", "ok",
		"block 5 6", "2",
		"new 4 3 2", "ok",
		"stats", "12 12 0 0 0 1 0",
		"block 5", "1",
		"load 1 type octile/height 1/width 2/map/@./", "ok",
		"stats", "2 1 0 0 0 1 1",
		"ask 5 0", "error 1",
		"new 2 2 6", "ok",
		"save", "type octile/height 2/width 2/map/../../",
	)
}

// N1, K1: MOST is kept with the service: so many levels at most, of edited grids, too.
func TestMost(t *testing.T) {
	const pillars = "type octile/height 9/width 9/map/........./.@.@.@.@./........./.@.@.@.@./........./.@.@.@.@./........./.@.@.@.@./........./"
	tops := map[string]int{}
	for most := 1; most <= api.MaxLevel; most++ {
		lines := []string{fmt.Sprint("load ", most, " ", pillars), "stats", "block 0", "stats", "ask 1 80"}
		checkJudged(t, lines)
		tops[strings.Fields(run(t, lines...)[3])[5]]++
	}
	if len(tops) < 4 {
		t.Errorf("tops: %v", tops)
	}
}

// W2: what is blocked and freed again leaves each answer as it was; asks, looks and what is saved change nothing.
func TestBlockedAndFreed(t *testing.T) {
	asks := []string{"ask 0 19", "batch 5 3 10 9 15 4", "look 15 2", "save", "ask 10 9"}
	lines := slices.Concat([]string{"new 5 4 3", "block 6 7 8 11"}, asks, asks, []string{"block 13 18 9", "free 18 9 13"}, asks)
	got := run(t, lines...)
	first := got[2 : 2+len(asks)]
	if again := got[2+len(asks) : 2+2*len(asks)]; !slices.Equal(first, again) {
		t.Errorf("asked again: %q, was %q", again, first)
	}
	if behind := got[len(got)-len(asks):]; !slices.Equal(first, behind) {
		t.Errorf("blocked and freed: %q, was %q", behind, first)
	}
	checkJudged(t, lines)
}

// Z2: the lines that are handed in are left as they are, and what stands behind them is neither read nor written.
func TestLinesLeft(t *testing.T) {
	all := []string{"new 3 2 1", "block 1", "load 2 type octile/height 1/width 1/map/./", "save", "fly", "batch 1", "ask 0 0", "new 9 9 1", "stats"}
	before := slices.Clone(all)
	whole := run(t, all...)
	for n := range len(all) + 1 {
		if got := run(t, all[:n]...); !slices.Equal(got, whole[:n]) {
			t.Errorf("the first %d => %q, want %q", n, got, whole[:n])
		}
	}
	if _, err := Run(slices.Repeat(all, 10)); err != error(api.ErrMany) {
		t.Errorf("too many lines: %v", err)
	}
	if !slices.Equal(all, before) {
		t.Errorf("the lines are %q, were %q", all, before)
	}
}

// Z2: what comes out is the caller's; sessions share nothing: each begins without a service, and answers the same again.
func TestSessionsApart(t *testing.T) {
	lines := []string{"stats", "new 3 2 1", "block 1", "save", "ask 0 2"}
	first := run(t, lines...)
	want := slices.Clone(first)
	for i := range first {
		first[i] = "x"
	}
	_ = append(first[:0:cap(first)], "y", "z")
	if again := run(t, lines...); !slices.Equal(again, want) || again[0] != "error 8" {
		t.Errorf("again: %q, was %q", again, want)
	}
	var all [8][]string
	var group sync.WaitGroup
	for i := range all {
		group.Go(func() { all[i], _ = Run(lines) })
	}
	group.Wait()
	for _, got := range all {
		if !slices.Equal(got, want) {
			t.Errorf("at once: %q, want %q", got, want)
		}
	}
}

// drawnLine: a line that is known, of cells of a grid of that size, a few of which are none.
func drawnLine(d *die, cells int) string {
	cell := func() string { return fmt.Sprint(" ", d.n(cells+1)-d.n(8)/7) }
	some := func(most int) string {
		s := ""
		for range d.n(most) {
			s += fmt.Sprint(" ", d.n(cells))
		}
		return s
	}
	switch d.n(12) {
	case 0:
		return fmt.Sprint("new ", d.n(12), " ", d.n(12), " ", d.n(8))
	case 1:
		rows := []string{"type octile", "height 3", "width 4", "map", "..@.", ".@..", "...."}
		rows[4+d.n(3)] = []string{"....", ".@.@", "@@.G", "...", "..x."}[d.n(5)]
		return fmt.Sprint("load ", d.n(8), " ", strings.Join(rows, "/"), "/")
	case 2, 3, 4:
		return "block" + some(6)
	case 5:
		return "free" + some(9)
	case 6:
		return "look" + cell() + fmt.Sprint(" ", d.n(10)-1)
	case 7, 8:
		return "ask" + cell() + cell()
	case 9:
		return "batch" + some(12)
	case 10:
		return "stats"
	}
	return "save"
}

// mangled: a line in which a byte is put, struck out, or changed.
func mangled(d *die, line string) string {
	const bytes = " 019-+/x@.\n"
	i, put := d.n(len(line)+1), d.n(len(bytes))
	end := i + d.n(2)
	return line[:i] + bytes[put:min(len(bytes), put+d.n(2))] + line[min(end, len(line)):]
}

// N1, N2: drawn sessions, with lines that are mangled among them, are answered as the judge does.
func TestDrawnSessions(t *testing.T) {
	d := die(130)
	known := 0
	for range 300 {
		w, h := 1+d.n(9), 1+d.n(9)
		lines := []string{fmt.Sprint("new ", w, " ", h, " ", d.n(7))}
		for len(lines) < api.MaxLines {
			line := drawnLine(&d, w*h)
			if d.n(4) == 0 {
				line = mangled(&d, line)
			}
			if strings.HasPrefix(line, "new") && d.n(3) > 0 {
				continue
			}
			lines = append(lines, line)
		}
		checkJudged(t, lines)
		for _, answer := range run(t, lines...) {
			if !strings.HasPrefix(answer, "error") {
				known++
			}
		}
	}
	if known < 300*api.MaxLines/3 {
		t.Errorf("only %d lines were answered", known)
	}
}

// Z1: any bytes at all are answered.
func TestAnyBytes(t *testing.T) {
	d := die(132)
	for range 200 {
		var lines []string
		for range 20 {
			line := make([]byte, d.n(40))
			for i := range line {
				line[i] = byte(d.n(256))
			}
			lines = append(lines, string(line), "new "+string(line), "load 1 "+string(line), "ask "+string(line))
		}
		for i, got := range run(t, lines...) {
			if got != "error 3" {
				t.Errorf("%q => %q", lines[i], got)
			}
		}
	}
}

// Z1: the most that a session may ask for.
func TestGreatest(t *testing.T) {
	lines := []string{"new 16 16 6"}
	d := die(133)
	for len(lines) < api.MaxLines {
		name := []string{"block", "batch", "free", "batch"}[len(lines)%4]
		count := api.MaxEdits
		if name == "batch" {
			count = 2 * api.MaxBatch
		}
		for range count {
			name += fmt.Sprint(" ", d.n(api.MaxCells))
		}
		lines = append(lines, name)
	}
	checkJudged(t, lines)
}
