package console

import (
	"fmt"
	"slices"
	"strings"
	"testing"

	"fellrunner/api"
)

// document: the session in its section 'Examples'.
const document = `ask 0 1 => error 8
new 5 4 3 => ok
ask 0 19 => 1 3: 0 6 12 18 19
block 6 7 8 11 => 4
save => type octile/height 4/width 5/map/...../.@@@./.@.../...../
ask 5 3 => 4 0: 5 0 1 2 3
ask 10 9 => 5 1: 10 15 16 17 13 14 9
stats => 20 16 5 5 1 3 4
look 10 1 => 0
look 0 2 => 4
batch 0 4 10 2 6 0 99 0 => 4 0: 0 1 2 3 4; 4 0: 10 5 0 1 2; error 4; error 1
block 13 18 => 2
ask 15 9 => 8 0: 15 10 5 0 1 2 3 4 9
stats => 20 14 4 3 1 3 6
block 9 => 1
ask 15 4 => 7 0: 15 10 5 0 1 2 3 4
ask 15 19 => error 5
free 13 18 => 2
ask 15 19 => 4 0: 15 16 17 18 19
stats => 20 15 3 2 0 3 9
load 2 type octile/height 3/width 4/map/..@./.@../..../ => ok
save => type octile/height 3/width 4/map/..@./.@../..../
ask 0 3 => 5 1: 0 4 8 9 10 7 3
ask 4 6 => 4 0: 4 8 9 10 6
load 2 type octile/height 3/width 4/map/..@./ => error 3
load 9 type octile/height 1/width 1/map/./ => error 1
new 17 1 1 => error 1
block 99 => error 1
block => 0
look 0 8 => error 1
ask 2 0 => error 4
batch 1 => error 3
fly => error 3`

// N1, N2: the document's session, line by line.
func TestDocument(t *testing.T) {
	var pairs []string
	for _, line := range strings.Split(document, "\n") {
		said, told, _ := strings.Cut(line, " => ")
		pairs = append(pairs, said, told)
	}
	check(t, pairs...)
}

// N1: where there is one way alone, it is told to the byte.
func TestAnswersToTheByte(t *testing.T) {
	lines := []string{
		"new 3 1 1", "ask 0 2", "ask 2 0", "ask 1 1", "batch 0 2 1 1 2 3 2 0", "batch 0 1", "block 1", "ask 0 2", "batch 0 2 2 2", "stats", "save", "look 0 2", "free 1", "look 0 2",
	}
	want := []string{
		"ok", "2 0: 0 1 2", "2 0: 2 1 0", "0 0: 1", "2 0: 0 1 2; 0 0: 1; error 1; 2 0: 2 1 0", "1 0: 0 1", "1", "error 5", "error 5; 0 0: 2", "3 2 0 0 0 1 1", "type octile/height 1/width 3/map/.@./", "0", "1", "2",
	}
	if got := run(t, lines...); !slices.Equal(got, want) {
		t.Errorf("Run(%q) = %q, want %q", lines, got, want)
	}
}

// N1: no line, as nil and not: no answer.
func TestNoLine(t *testing.T) {
	for _, lines := range [][]string{nil, {}} {
		if answers, err := Run(lines); len(answers) != 0 || err != nil {
			t.Errorf("Run of no line = %q, %v", answers, err)
		}
	}
}

// N1, Z1, Z3: MaxLines are answered, one more is too many, whatever they say.
func TestManyLines(t *testing.T) {
	lines := []string{"new 2 2 1"}
	for len(lines) < api.MaxLines {
		lines = append(lines, "stats")
	}
	for i, got := range run(t, lines...)[1:] {
		if got != "4 4 0 0 0 1 0" {
			t.Errorf("line %d => %q", i+1, got)
		}
	}
	for _, many := range [][]string{append(lines, "stats"), make([]string, api.MaxLines+1), make([]string, 5000), slices.Concat(lines, lines)} {
		if answers, err := Run(many); len(answers) != 0 || err != error(api.ErrMany) {
			t.Errorf("Run of %d lines = %d answers, %v, want ErrMany", len(many), len(answers), err)
		}
	}
}

// padded: a line that loads a map of one cell, with so many bytes in all: the map is none, if it is padded.
func padded(most, bytes int) string {
	line := fmt.Sprintf("load %d type octile/height 1/width 1/map/./", most)
	return line + strings.Repeat("/", max(0, bytes-len(line)))
}

// N2: a line of MaxLine bytes is read, one of more isn't, whatever it says.
func TestLongLines(t *testing.T) {
	// A map of as many bytes as a line may have behind "load 1 " has too many: that it is told shows that the line was read.
	check(t,
		padded(1, 0), "ok",
		padded(1, api.MaxLine), "error 2",
		padded(1, api.MaxLine+1), "error 3",
		padded(1, 5000), "error 3",
		strings.Repeat("x", api.MaxLine), "error 3",
		strings.Repeat("x", api.MaxLine+1), "error 3",
		strings.Repeat("x", 100000), "error 3",
		"save", "type octile/height 1/width 1/map/./",
	)
	// block and 219 numbers of four digits make just MaxLine bytes; here the last one lacks a digit.
	line := "block" + strings.Repeat(" 1000", 218) + " 100"
	if len(line) != api.MaxLine-1 {
		t.Fatalf("it has %d bytes", len(line))
	}
	check(t,
		"new 1 1 1", "ok",
		line, "error 2",
		line+"0", "error 2",
		line+"00", "error 3",
		line+"0 ", "error 3",
		line+" 0", "error 3",
	)
	// Ahead of a service, too: that one is wanted is told of lines that are read alone.
	check(t, line, "error 8", line+"0", "error 8", line+" 0", "error 3")
}

// N1: MaxText bytes of a map are read, one more are too many, as the service says.
func TestLongMaps(t *testing.T) {
	check(t,
		"load 1 "+strings.Repeat("/", api.MaxText), "error 3",
		"load 1 "+strings.Repeat("/", api.MaxText+1), "error 2",
		"load 9 "+strings.Repeat(" ", api.MaxText+1), "error 2",
		"load x "+strings.Repeat("/", api.MaxText+1), "error 3",
		"stats", "error 8",
	)
}

// N1: words have one blank between, and none ahead or behind; nothing else is a blank.
func TestBlanks(t *testing.T) {
	lines := []string{"new 3 2 1", "block 1 2", "free 1 2", "look 0 2", "ask 0 2", "batch 0 1 1 2", "stats", "save"}
	check(t, lines[0], "ok", lines[1], "2", lines[2], "2", lines[3], "2", lines[4], "2 0: 0 1 2", lines[5], "1 0: 0 1; 1 0: 1 2", lines[6], "6 6 0 0 0 1 4", lines[7], "type octile/height 2/width 3/map/.../.../")
	for _, line := range lines {
		wrong := []string{" " + line, line + " ", line + "  ", "  " + line, " " + line + " ", line + "\n", line + "\t", line + "\r", line + "\x00", "\ufeff" + line}
		for i := range len(line) {
			if line[i] == ' ' {
				for _, blank := range []string{"  ", "\t", "\n", "/", ",", "\u00a0", " \t", ""} {
					wrong = append(wrong, line[:i]+blank+line[i+1:])
				}
			}
		}
		checkNone(t, wrong...)
	}
}

// checkNone of the lines is one that is known, whether there is a service or not; and none of them changes it.
func checkNone(t *testing.T, lines ...string) {
	t.Helper()
	for _, line := range lines {
		// Without a blank between them two numbers are one: where any number of them may be, that still is a line.
		if (&judge{}).answer(line) != "error 3" {
			continue
		}
		check(t,
			line, "error 3",
			"stats", "error 8",
			"new 3 2 1", "ok",
			line, "error 3",
			"stats", "6 6 0 0 0 1 0",
		)
	}
}

// N2: lines that are none of those that are known: an empty one, other names, names in capitals, parts of names, more than names.
func TestNoneOfThese(t *testing.T) {
	none := []string{"", " ", "  ", "fly", "fly 1 2", "help", "NEW 1 1 1", "New 1 1 1", "Stats", "sav", "saves", "stat", "blocks 1", "bloc 1", "error 3", "1", "0 1", "-1", "ask0 1", "new1 1 1", "#", "\n", "\xff", "\x00", "é", "save;stats", "new 1 1 1; stats", "new 1 1 1\nstats"}
	checkNone(t, none...)
	for _, line := range none {
		if got := run(t, line)[0]; got != "error 3" {
			t.Errorf("%q => %q", line, got)
		}
	}
}

// N1: too few words, and too many.
func TestCounts(t *testing.T) {
	for name, count := range map[string]int{"new": 3, "look": 2, "ask": 2, "stats": 0, "save": 0} {
		for n := range 8 {
			line := name + strings.Repeat(" 1", n)
			if n == count {
				check(t, "new 3 3 1", "ok", line, (&judge{}).after("new 3 3 1", line))
				continue
			}
			checkNone(t, line)
			if got := run(t, line)[0]; got != "error 3" {
				t.Errorf("%q => %q", line, got)
			}
		}
	}
}

// after other lines, the answer to the last one.
func (j *judge) after(lines ...string) string {
	told := ""
	for _, line := range lines {
		told = j.answer(line)
	}
	return told
}

// N1: numbers: of four digits and of five, 0, -1; and what is none: with a nought ahead, -2, a sign, no digit.
func TestNumbers(t *testing.T) {
	known := []string{"0", "1", "5", "9", "10", "99", "100", "255", "999", "1000", "9999", "-1"}
	unknown := []string{"", "00", "01", "007", "0000", "00000", "0001", "00001", "10000", "99999", "12345", "-0", "-01", "-2", "-9", "-10", "-11", "--1", "-", "+", "+1", "+0", "+-1", "1-", "-1-", "1.", "1.0", ".5", "1e1", "0x1", "0b1", "0o7", "1_0", "1,0", "x", "a", "1x", "x1", "'1'", "١", "１", "1\x00", "\x001", "\xff", "1\n", "18446744073709551616", "18446744073709551617", "9223372036854775807", "4294967296", "4294967297", "-9223372036854775808", "-4294967295", "99999999999999999999999999", "1/1", "/"}
	for _, line := range []string{"new # 2 1", "new 2 # 1", "new 2 2 #", "load # type octile/height 1/width 1/map/./", "block #", "block 0 # 1", "free #", "free 0 1 #", "look # 0", "look 0 #", "ask # 0", "ask 0 #", "batch # 0", "batch 0 #", "batch 0 0 # 1", "batch 0 0 1 #"} {
		for _, word := range known {
			said := strings.Replace(line, "#", word, 1)
			checkJudged(t, []string{said, "stats", "new 16 16 1", said, "stats", "save"})
			if got := run(t, "new 16 16 1", said)[1]; got == "error 3" {
				t.Errorf("%q => %q", said, got)
			}
		}
		for _, word := range unknown {
			said := strings.Replace(line, "#", word, 1)
			if got := run(t, said, "new 16 16 1", said, "stats"); got[0] != "error 3" || got[2] != "error 3" || got[3] != "256 256 0 0 0 1 0" {
				t.Errorf("%q => %q", said, got)
			}
		}
	}
}

// N1: all words of up to three of some bytes, as numbers.
func TestAllShortWords(t *testing.T) {
	const bytes = "-+ 0129x/."
	words := []string{""}
	for first := 0; len(words[first]) < 3; first++ {
		for i := range len(bytes) {
			words = append(words, words[first]+bytes[i:i+1])
		}
	}
	for pack := range slices.Chunk(words, 13) {
		lines := []string{"new 4 3 2"}
		for _, word := range pack {
			lines = append(lines, "look "+word+" 1", "ask "+word, "block "+word, "batch 1 "+word, "load 1"+word, "free"+word)
		}
		checkJudged(t, lines)
		checkJudged(t, lines[1:])
	}
}

// numbers: so many, rising from 0 on.
func numbers(count int) string {
	var b strings.Builder
	for i := range count {
		fmt.Fprintf(&b, " %d", i)
	}
	return b.String()
}

// N1, M2: block and free with no number, with MaxEdits of them, and one more; what is so already doesn't count.
func TestEdits(t *testing.T) {
	check(t,
		"block", "error 8",
		"free", "error 8",
		"new 16 16 2", "ok",
		"block", "0",
		"free", "0",
		"block"+numbers(api.MaxEdits+1), "error 2",
		"stats", "256 256 0 0 0 1 0",
		"block"+numbers(api.MaxEdits), "60",
		"block"+numbers(api.MaxEdits), "0",
		"free"+numbers(api.MaxEdits+1), "error 2",
		"block 59 60 61", "2",
		"free 59 60 61 62", "3",
		"free"+numbers(api.MaxEdits), "59",
		"free 0", "0",
		"stats", "256 256 0 0 0 1 124",
		"block 7 7 7", "1",
		"free 7 7", "1",
		"block 255 254 253", "3",
		"look 252 2", "0",
		"ask 252 255", "error 4",
	)
}

// N2: an edit that answers an error, wherever in it the cell is that is none: nothing changes.
func TestEditErrors(t *testing.T) {
	check(t,
		"load 3 type octile/height 4/width 5/map/...../.@@@./.@.../...../", "ok",
		"block 0 1 20", "error 1",
		"block 20 0 1", "error 1",
		"block 0 -1 1", "error 1",
		"free 6 7 9999", "error 1",
		"free -1 6", "error 1",
		"block 0 01 1", "error 3",
		"free 6 x", "error 3",
		"block 0 10000", "error 3",
		"stats", "20 16 5 5 1 3 4",
		"save", "type octile/height 4/width 5/map/...../.@@@./.@.../...../",
	)
}

// N1, M3: batch with no number, with an odd one, with MaxBatch asks and one more.
func TestBatches(t *testing.T) {
	same := strings.Repeat("; 0 0: 3", api.MaxBatch)[2:]
	check(t,
		"batch", "error 8",
		"new 2 2 1", "ok",
		"batch", "",
		"batch 1", "error 3",
		"batch 1 2 3", "error 3",
		"batch 9 9 9", "error 3",
		"batch 1 1", "0 0: 1",
		"batch"+strings.Repeat(" 3", 2*api.MaxBatch), same,
		"batch"+strings.Repeat(" 3", 2*api.MaxBatch-1), "error 3",
		"batch"+strings.Repeat(" 3", 2*api.MaxBatch+1), "error 3",
		"batch"+strings.Repeat(" 3", 2*api.MaxBatch+2), "error 2",
		"batch"+strings.Repeat(" 9", 2*api.MaxBatch+2), "error 2",
		"batch 0 9", "error 1",
		"batch 0 9 9 0 -1 -1", "error 1; error 1; error 1",
		"block 1", "1",
		"batch 0 1 1 0 0 3 9 1 1 9", "error 4; error 4; 2 0: 0 2 3; error 1; error 4",
		"block 2", "1",
		"batch 0 3 3 0 3 3", "error 5; error 5; 0 0: 3",
	)
	if got := run(t, "new 2 2 1", "batch", "batch"+strings.Repeat(" 3", 2*api.MaxBatch)); got[1] != "" || got[2] != same {
		t.Errorf("batches of none and of MaxBatch => %q", got)
	}
}

// N1, M4: look, all directions, and what is none, as the service says.
func TestLook(t *testing.T) {
	check(t,
		"look 0 0", "error 8",
		"new 4 3 1", "ok",
		"look 5 0", "1", "look 5 1", "1", "look 5 2", "2", "look 5 3", "1", "look 5 4", "1", "look 5 5", "1", "look 5 6", "1", "look 5 7", "1",
		"look 5 8", "error 1",
		"look 5 -1", "error 1",
		"look -1 5", "error 1",
		"look 12 0", "error 1",
		"look 9999 9999", "error 1",
		"look 11 7", "2",
		"block 6", "1",
		"look 5 2", "0", "look 6 2", "0", "look 5 3", "0", "look 4 2", "1",
		"free 6", "1",
		"look 4 2", "3",
	)
}

// N1, M3: ask, and what it may answer.
func TestAsk(t *testing.T) {
	check(t,
		"ask 0 0", "error 8",
		"load 6 type octile/height 4/width 5/map/...../.@@@./.@.../...../", "ok",
		"ask 0 0", "0 0: 0",
		"ask 10 9", "5 1: 10 15 16 17 13 14 9",
		"ask 9 10", "5 1: 9 14 13 17 16 15 10",
		"ask 6 0", "error 4",
		"ask 0 6", "error 4",
		"ask 6 6", "error 4",
		"ask -1 0", "error 1",
		"ask 0 -1", "error 1",
		"ask 20 6", "error 1",
		"ask 6 20", "error 4",
		"ask 9999 9999", "error 1",
		"block 9 14 19", "3",
		"ask 0 13", "5 1: 0 5 10 15 16 17 13",
		"block 16", "1",
		"ask 0 13", "error 5",
	)
}
