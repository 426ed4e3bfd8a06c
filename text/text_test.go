package text

import (
	"fmt"
	"strconv"
	"strings"
	"testing"

	"fellrunner/api"
	"fellrunner/grid"
)

// die: numbers that look drawn, the same each time.
type die uint64

func (d *die) n(most int) int {
	*d = *d*6364136223846793005 + 1442695040888963407
	return int(uint64(*d>>33) % uint64(most))
}

// mapOf: the text of a map, its numbers as they are told, its rows as they lie.
func mapOf(h, w string, rows ...string) string {
	s := "type octile\nheight " + h + "\nwidth " + w + "\nmap\n"
	for _, row := range rows {
		s += row + "\n"
	}
	return s
}

// gridOf: a grid in which just those cells are blocked.
func gridOf(t *testing.T, w, h int, blocked ...int) *grid.Grid {
	t.Helper()
	g, err := grid.New(w, h)
	if err != nil {
		t.Fatal(err)
	}
	for _, cell := range blocked {
		if did, err := g.Set(cell, true); !did || err != nil {
			t.Fatalf("Set(%d) = %v, %v", cell, did, err)
		}
	}
	return g
}

func checkPrint(t *testing.T, g *grid.Grid, want string) {
	t.Helper()
	if got := Print(g); got != want {
		t.Errorf("Print = %q, want %q", got, want)
	}
}

// checkRead: the text is read as a grid of that size in which just those cells are blocked.
func checkRead(t *testing.T, s string, w, h int, blocked ...int) {
	t.Helper()
	g, err := Parse(s)
	if err != nil || g == nil {
		t.Errorf("Parse(%q) = %v, %v", s, g, err)
		return
	}
	if gotW, gotH := g.Size(); gotW != w || gotH != h {
		t.Errorf("Parse(%q): %d columns, %d rows, want %d, %d", s, gotW, gotH, w, h)
		return
	}
	walls := map[int]bool{}
	for _, cell := range blocked {
		walls[cell] = true
	}
	for cell := range w * h {
		if free, err := g.Free(cell); free == walls[cell] || err != nil {
			t.Errorf("Parse(%q): cell %d is free: %v (%v)", s, cell, free, err)
		}
	}
	if g.Version() != len(blocked) {
		t.Errorf("Parse(%q): version %d, want %d", s, g.Version(), len(blocked))
	}
}

func checkError(t *testing.T, s string, want api.Errno) {
	t.Helper()
	if g, err := Parse(s); g != nil || err != error(want) {
		t.Errorf("Parse(%q) = %v, %v, want %v", s, g, err, want)
	}
}

// C1: the lines, and a byte a cell, row by row.
func TestPrint(t *testing.T) {
	checkPrint(t, gridOf(t, 5, 4, 6, 7, 8, 11), "type octile\nheight 4\nwidth 5\nmap\n.....\n.@@@.\n.@...\n.....\n")
	checkPrint(t, gridOf(t, 4, 3, 2, 5), "type octile\nheight 3\nwidth 4\nmap\n..@.\n.@..\n....\n")
	checkPrint(t, gridOf(t, 1, 1), "type octile\nheight 1\nwidth 1\nmap\n.\n")
	checkPrint(t, gridOf(t, 1, 1, 0), "type octile\nheight 1\nwidth 1\nmap\n@\n")
	checkPrint(t, gridOf(t, 3, 1, 0, 2), "type octile\nheight 1\nwidth 3\nmap\n@.@\n")
	checkPrint(t, gridOf(t, 1, 3, 0, 2), "type octile\nheight 3\nwidth 1\nmap\n@\n.\n@\n")
}

// C1: the greatest grid; it is a map, too.
func TestPrintGreatest(t *testing.T) {
	rows := make([]string, api.MaxSide)
	for i := range rows {
		rows[i] = strings.Repeat(".", api.MaxSide)
	}
	rows[0] = rows[0][1:] + "@"
	rows[15] = "@" + rows[15][1:]
	s := mapOf("16", "16", rows...)
	checkPrint(t, gridOf(t, 16, 16, 15, 240), s)
	checkRead(t, s, 16, 16, 15, 240)
}

// C1: it is told how cells are, not how they came to be so; and telling changes nothing.
func TestPrintAfterChanges(t *testing.T) {
	g := gridOf(t, 3, 2, 1, 4)
	g.Set(1, false)
	g.Set(5, true)
	want := mapOf("2", "3", "...", ".@@")
	checkPrint(t, g, want)
	checkPrint(t, g, want)
	if g.Version() != 4 {
		t.Errorf("Print changed the version to %d", g.Version())
	}
	g.Set(4, false)
	checkPrint(t, g, mapOf("2", "3", "...", "..@"))
}

// C2: each of the seven bytes that a cell may be, and no other one.
func TestParseEachByte(t *testing.T) {
	for b := range 256 {
		s := mapOf("2", "3", "...", "."+string([]byte{byte(b)})+".")
		switch {
		case strings.IndexByte(".GS", byte(b)) >= 0:
			checkRead(t, s, 3, 2)
		case strings.IndexByte("@OTW", byte(b)) >= 0:
			checkRead(t, s, 3, 2, 4)
		default:
			checkError(t, s, api.ErrText)
		}
	}
	checkRead(t, mapOf("1", "7", ".GS@OTW"), 7, 1, 3, 4, 5, 6)
}

// C2, W7: a text that is read is told anew by two bytes alone.
func TestPrintOfWhatIsRead(t *testing.T) {
	g, err := Parse(mapOf("2", "4", "GTS.", "W.O@"))
	if err != nil {
		t.Fatal(err)
	}
	checkPrint(t, g, mapOf("2", "4", ".@..", "@.@@"))
}

// C2: the Version of a grid that is read: how many cells are blocked.
func TestParseVersion(t *testing.T) {
	checkRead(t, mapOf("1", "1", "."), 1, 1)
	checkRead(t, mapOf("1", "1", "@"), 1, 1, 0)
	checkRead(t, mapOf("3", "4", "..@.", ".@..", "...."), 4, 3, 2, 5)
	g, err := Parse(mapOf("2", "2", "@@", "@@"))
	if err != nil || g.Version() != 4 {
		t.Fatalf("%v, version %d", err, g.Version())
	}
	g.Set(3, false)
	if g.Version() != 5 {
		t.Errorf("it goes on from there: %d", g.Version())
	}
}

// C2, B1: the least and the greatest grid, and one beyond each, in each of the two.
func TestParseSizes(t *testing.T) {
	for h := -2; h <= api.MaxSide+2; h++ {
		for w := -2; w <= api.MaxSide+2; w++ {
			rows := make([]string, max(h, 0))
			for i := range rows {
				rows[i] = strings.Repeat(".", max(w, 0))
			}
			s := mapOf(strconv.Itoa(h), strconv.Itoa(w), rows...)
			if 1 <= min(w, h) && max(w, h) <= api.MaxSide {
				checkRead(t, s, w, h)
			} else {
				checkError(t, s, api.ErrBound)
			}
		}
	}
}

// C2, Z3: any number of 64 bits may be told, if no grid is so great; greater ones, and what is no number, may not.
func TestParseNumbers(t *testing.T) {
	numbers := []string{
		"0", "-1", "-16", "17", "100", "4294967297", "-4294967295", "9223372036854775807", "-9223372036854775808",
	}
	for _, n := range numbers {
		checkError(t, mapOf(n, "1", "."), api.ErrBound)
		checkError(t, mapOf("1", n, "."), api.ErrBound)
		checkError(t, mapOf(n, n, "."), api.ErrBound)
	}
	others := []string{
		"9223372036854775808", "-9223372036854775809", "18446744073709551616", "18446744073709551617",
		"340282366920938463463374607431768211457", strings.Repeat("9", 300),
		"", "-", "+", "+1", "-0", "01", "001", "00", "-01", "--1", "1 ", " 1", "1\r", "1.", "1.0", "0x1", "1e0", "1_0", "x", "1x", "1 1", "１",
	}
	for _, n := range others {
		checkError(t, mapOf(n, "1", "."), api.ErrText)
		checkError(t, mapOf("1", n, "."), api.ErrText)
		checkError(t, mapOf(n, n, "."), api.ErrText)
	}
}

// C2, Z3: what is wrong in the four lines ahead is told before a bound, a bound before what is wrong in the rows.
func TestParseWhichError(t *testing.T) {
	checkError(t, mapOf("0", "x", "."), api.ErrText)
	checkError(t, mapOf("x", "0", "."), api.ErrText)
	checkError(t, mapOf("17", "9223372036854775808", "."), api.ErrText)
	checkError(t, "type octile\nheight 17\nwidth 17\nmap", api.ErrText)
	checkError(t, "type octile\nheight 17\nwidth 17\nmop\n", api.ErrText)
	checkError(t, "type octil\nheight 17\nwidth 17\nmap\n", api.ErrText)
	checkError(t, "type octile\nheight 17\nwidth 17\nmap\n", api.ErrBound)
	checkError(t, mapOf("17", "1", "x"), api.ErrBound)
	checkError(t, mapOf("1", "0", "x"), api.ErrBound)
	checkError(t, mapOf("0", "0")+"no end", api.ErrBound)
}

// C2: MaxText bytes and one more; that there are too many is told first.
func TestParseTooMany(t *testing.T) {
	good := mapOf("1", "1", ".")
	most := good + strings.Repeat(".", api.MaxText-len(good))
	checkError(t, most, api.ErrText)
	checkError(t, most+".", api.ErrMany)
	great := mapOf("17", "17")
	most = great + strings.Repeat(".", api.MaxText-len(great))
	checkError(t, most, api.ErrBound)
	checkError(t, most+".", api.ErrMany)
	checkError(t, strings.Repeat("x", api.MaxText), api.ErrText)
	checkError(t, strings.Repeat("x", api.MaxText+1), api.ErrMany)
	checkError(t, strings.Repeat("\n", 100000), api.ErrMany)
}

// C2: the four lines ahead are just those, in that order.
func TestParseHead(t *testing.T) {
	checkRead(t, "type octile\nheight 1\nwidth 2\nmap\n.@\n", 2, 1, 1)
	bad := []string{
		"",
		"\n",
		"\n\n\n\n",
		"x",
		".\n",
		"map\n.@\n",
		"type octile\n",
		"type octile\nheight 1\n",
		"type octile\nheight 1\nwidth 2\n",
		"type octile\nheight 1\nwidth 2\nmap",
		"type octile\nheight 1\nwidth 2\n.@\n",
		"type octile\nwidth 2\nheight 1\nmap\n.@\n",
		"height 1\nwidth 2\ntype octile\nmap\n.@\n",
		"\ntype octile\nheight 1\nwidth 2\nmap\n.@\n",
		"type octile\n\nheight 1\nwidth 2\nmap\n.@\n",
		"type octile\nheight 1\nwidth 2\n\nmap\n.@\n",
		"type octile height 1\nwidth 2\nmap\n.@\n",
		"type octile\r\nheight 1\r\nwidth 2\r\nmap\r\n.@\r\n",
		"type  octile\nheight 1\nwidth 2\nmap\n.@\n",
		"Type octile\nheight 1\nwidth 2\nmap\n.@\n",
		"type octile \nheight 1\nwidth 2\nmap\n.@\n",
		" type octile\nheight 1\nwidth 2\nmap\n.@\n",
		"type quartile\nheight 1\nwidth 2\nmap\n.@\n",
		"type octile\nheight  1\nwidth 2\nmap\n.@\n",
		"type octile\nheight1\nwidth 2\nmap\n.@\n",
		"type octile\n1\n2\nmap\n.@\n",
		"type octile\nheigh 1\nwidth 2\nmap\n.@\n",
		"type octile\nHEIGHT 1\nwidth 2\nmap\n.@\n",
		"type octile\nheight height 1\nwidth 2\nmap\n.@\n",
		"type octile\nwidth 1\nheight 2\nmap\n.@\n",
		"type octile\nheight 1\nheight 2\nmap\n.@\n",
		"type octile\nheight 1\nwidth\nmap\n.@\n",
		"type octile\nheight 1\nwidth 2\nMap\n.@\n",
		"type octile\nheight 1\nwidth 2\nmap \n.@\n",
		"type octile\nheight 1\nwidth 2\nmaps\n.@\n",
		"type octile\x00\nheight 1\nwidth 2\nmap\n.@\n",
	}
	for _, s := range bad {
		checkError(t, s, api.ErrText)
	}
}

// C2: the rest is just h lines of w bytes: none without its end, none too many, none too long or too short.
func TestParseRows(t *testing.T) {
	head := mapOf("3", "2")
	checkRead(t, head+".@\n@.\n..\n", 2, 3, 1, 2)
	bad := []string{
		"", "\n", "\n\n\n", ".@\n", ".@\n@.\n", ".@\n@.\n..", ".@\n@.\n.\n", ".@\n@.\n...\n", ".@\n@.\n..\n\n",
		".@\n@.\n..\n.", ".@\n@.\n..\n..\n", ".@\n@.\n..\n..", ".@@\n.\n..\n", ".\n@.\n...\n", ".@@...\n", ".@@...", ".@\n@.\n\n..\n",
		"\n.@\n@.\n..\n", ".@\r\n@.\r\n..\r\n", ".@ @. .. ", ".@\n@.\n. \n", ".@\n@.\n.x\n", "x@\n@.\n..\n", ".@\n@.\n..\x00", ".@\n@.\n..\n\x00",
		".@\n@.\n.\n.", "é\n@.\n..\n", ".@\n@.\n\xff.\n",
	}
	for _, rows := range bad {
		checkError(t, head+rows, api.ErrText)
	}
}

// C2: what is read of a text hangs on no byte behind it.
func TestParseEveryBeginning(t *testing.T) {
	s := mapOf("2", "3", "..@", "@..")
	for i := range len(s) {
		checkError(t, s[:i], api.ErrText)
	}
	checkRead(t, s, 3, 2, 2, 3)
}

// drawnGrid: a grid with walls, and the text that a plain reading of C1 gives for it.
func drawnGrid(t *testing.T, d *die) (*grid.Grid, string) {
	w, h := d.n(api.MaxSide)+1, d.n(api.MaxSide)+1
	var blocked []int
	s := fmt.Sprintf("type octile\nheight %d\nwidth %d\nmap\n", h, w)
	for cell := range w * h {
		if d.n(3) == 0 {
			blocked = append(blocked, cell)
			s += "@"
		} else {
			s += "."
		}
		if cell%w == w-1 {
			s += "\n"
		}
	}
	return gridOf(t, w, h, blocked...), s
}

// C1, C2, W7: what is written is read.
func TestWrittenIsRead(t *testing.T) {
	d := die(7)
	for range 200 {
		g, s := drawnGrid(t, &d)
		checkPrint(t, g, s)
		var blocked []int
		for cell := range g.Cells() {
			if free, _ := g.Free(cell); !free {
				blocked = append(blocked, cell)
			}
		}
		w, h := g.Size()
		checkRead(t, s, w, h, blocked...)
	}
}

// C2, Z1: texts with a byte that is other, gone or new: an error, or a map with one other cell.
func TestParseDrawnFaults(t *testing.T) {
	d := die(8)
	bytes := []byte(".@GSOTWx\n\r 019-+\x00\xff")
	for range 4000 {
		_, s := drawnGrid(t, &d)
		at := d.n(len(s))
		b := bytes[d.n(len(bytes))]
		text := s[:at] + string([]byte{b}) + s[at+1:]
		switch d.n(3) {
		case 0:
			text = s[:at] + s[at+1:]
		case 1:
			text = s[:at] + string([]byte{b}) + s[at:]
		}
		g, err := Parse(text)
		if err != nil {
			if g != nil || err != error(api.ErrText) && err != error(api.ErrBound) {
				t.Errorf("Parse(%q) = %v, %v", text, g, err)
			}
			continue
		}
		told := strings.NewReplacer("G", ".", "S", ".", "O", "@", "T", "@", "W", "@").Replace(text)
		checkPrint(t, g, told)
	}
}

// Z2: grids that are read from one text go on apart, and reading hangs on nothing that was read before.
func TestReadAgain(t *testing.T) {
	s := mapOf("2", "2", ".@", "@.")
	first, err := Parse(s)
	if err != nil {
		t.Fatal(err)
	}
	first.Set(0, true)
	checkError(t, s+"x", api.ErrText)
	checkRead(t, s, 2, 2, 1, 2)
	checkPrint(t, first, mapOf("2", "2", "@@", "@."))
}
