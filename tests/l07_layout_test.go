package tests

import (
	"math"
	"slices"
	"strings"
	"testing"

	"loop.example/g00819/impl"
)

// The flags of withFlags that have an influence on how cells are laid.
const (
	rightBit = 1
	linesBit = 4
)

var (
	rightConfig      = withFlags(impl.DefaultConfig(), rightBit)
	linedConfig      = withFlags(impl.DefaultConfig(), linesBit)
	rightLined       = withFlags(impl.DefaultConfig(), rightBit|linesBit)
	dotsConfig       = impl.Config{Tab: 4, Padding: 2, Pad: 46}
	shortTabs        = impl.Config{Tab: 4, Padding: 1, Pad: 9}
	linedTabs        = impl.Config{Tab: 4, Padding: 1, Pad: 9, Lines: true}
	layoutConfigs    = []impl.Config{ordinaryConfig, rightConfig, linedConfig, rightLined, dotsConfig, shortTabs, linedTabs}
	allLayoutConfigs = append(layoutConfigs, blockConfigs...)
)

// cellWith returns a cell with a Width that need not be that of its text.
func cellWith(s string, width int) impl.Cell {
	return impl.Cell{Text: s, Width: width}
}

// fillingOf fills up display columns one by one, or tab by tab.
func fillingOf(c impl.Config, n int) string {
	step := 1
	if c.Pad == 9 {
		step = c.Tab
	}
	var filling []byte
	for columns := 0; columns < n; columns += step {
		filling = append(filling, byte(c.Pad))
	}
	return string(filling)
}

// layLine is the document's description of a line, piece by piece.
func layLine(c impl.Config, l impl.Line, widths []int) string {
	if !isConfig(c) || len(widths) != len(l.Cells) {
		return ""
	}
	if len(widths) > 0 && (slices.Min(widths) < 0 || slices.Max(widths) > 100200) {
		return ""
	}
	var pieces []string
	for i, cell := range l.Cells {
		if cell.Width < 0 {
			return ""
		}
		around := []string{cell.Text, fillingOf(c, widths[i]-cell.Width)}
		if c.Right {
			slices.Reverse(around)
		}
		if c.Lines {
			around = append(around, "|")
		}
		pieces = append(pieces, around...)
	}
	pieces = append(pieces, l.Tail.Text)
	if l.End != 0 {
		pieces = append(pieces, "\n")
	}
	return strings.Join(pieces, "")
}

// layLines lays all lines with the widths of the test's own blocks.
func layLines(c impl.Config, list []impl.Line) string {
	text := ""
	for i, widths := range widthsOf(c, list) {
		text += layLine(c, list[i], widths)
	}
	return text
}

// slotsOf adds the widths before each slot up anew.
func slotsOf(c impl.Config, t string) [][]int {
	if !isConfig(c) {
		return nil
	}
	var slots [][]int
	for _, widths := range widthsOf(c, linesOf(c, t)) {
		var row []int
		for k := 0; k <= len(widths); k++ {
			at := 0
			for _, n := range widths[:k] {
				at += n
			}
			if c.Lines {
				at += k
			}
			row = append(row, at)
		}
		slots = append(slots, row)
	}
	return slots
}

func layoutWidth(c impl.Config, t string) int {
	width := 0
	for i, row := range slotsOf(c, t) {
		width = max(width, row[len(row)-1]+linesOf(c, t)[i].Tail.Width)
	}
	return width
}

// alignedBySlots looks for two cells of a block that start at different slots.
func alignedBySlots(blocks []impl.Block, slots [][]int) bool {
	for _, b := range blocks {
		for i := b.From; i < b.To; i++ {
			if slots[i][b.Column] != slots[b.From][b.Column] {
				return false
			}
		}
	}
	return true
}

// checkLayout compares all functions that take a text with the definitions.
func checkLayout(t *testing.T, c impl.Config, s string) {
	t.Helper()
	list := linesOf(c, s)
	if got, want := impl.Layout(c, s), layLines(c, list); got != want {
		t.Fatalf("Layout(%s, %q) = %q, want %q", configText(c), s, got, want)
	}
	if got, want := impl.LayLines(c, list), layLines(c, list); got != want {
		t.Fatalf("LayLines(%s, %+v) = %q, want %q", configText(c), list, got, want)
	}
	slots := impl.SlotsOf(c, s)
	if want := slotsOf(c, s); !sameWidths(slots, want) {
		t.Fatalf("SlotsOf(%s, %q) = %v, want %v", configText(c), s, slots, want)
	}
	if !impl.IsAligned(c, s) || !alignedBySlots(impl.BlocksOf(c, list), slots) {
		t.Fatalf("IsAligned(%s, %q) = %v with the slots %v", configText(c), s, impl.IsAligned(c, s), slots)
	}
	if got, want := impl.LayoutWidth(c, s), layoutWidth(c, s); got != want {
		t.Fatalf("LayoutWidth(%s, %q) = %d, want %d", configText(c), s, got, want)
	}
}

// display is a line as it is seen: the display columns at which its characters start, and finally the column where it ends.
func display(c impl.Config, s string) (characters []string, columns []int) {
	characters = impl.CutRunes(s)
	at := 0
	for _, x := range characters {
		columns = append(columns, at)
		if x == "\t" {
			at += c.Tab - at%c.Tab
		} else {
			at += widthOfText(x)
		}
	}
	return characters, append(columns, at)
}

// isShown reports whether a text with a positive width is seen at a display column of a line.
func isShown(c impl.Config, laid string, s string, at int) bool {
	characters, columns := display(c, laid)
	for i := range characters {
		if columns[i] == at && strings.HasPrefix(strings.Join(characters[i:], ""), s) {
			return true
		}
	}
	return false
}

// checkSeen is P3 as it is seen: each cell is at its slot, or ends where the next one starts if it is aligned to the right, and each line is as wide as its slots and its tail.
func checkSeen(t *testing.T, c impl.Config, s string) {
	t.Helper()
	slots := impl.SlotsOf(c, s)
	laid := strings.Split(impl.Layout(c, s), "\n")
	greatest := 0
	for i, l := range impl.SplitText(c, s) {
		last := len(l.Cells)
		_, columns := display(c, laid[i])
		if width := columns[len(columns)-1]; width != slots[i][last]+l.Tail.Width {
			t.Fatalf("with %s, line %d of the layout %q is %d columns wide, want %d", configText(c), i, laid, width, slots[i][last]+l.Tail.Width)
		}
		greatest = max(greatest, columns[len(columns)-1])
		for k, cell := range l.Cells {
			at := slots[i][k]
			if c.Right {
				at = slots[i][k+1] - cell.Width
				if c.Lines {
					at--
				}
			}
			if cell.Width > 0 && !isShown(c, laid[i], cell.Text, at) {
				t.Fatalf("with %s, the cell %d of line %d of the layout %q is not seen at the column %d", configText(c), k, i, laid, at)
			}
			if c.Lines && !isShown(c, laid[i], "|", slots[i][k+1]-1) {
				t.Fatalf("with %s, no line is seen at the column %d of line %d of the layout %q", configText(c), slots[i][k+1]-1, i, laid)
			}
		}
		if l.Tail.Width > 0 && !isShown(c, laid[i], l.Tail.Text, slots[i][last]) {
			t.Fatalf("with %s, the tail of line %d of the layout %q is not seen at the column %d", configText(c), i, laid, slots[i][last])
		}
	}
	if got := impl.LayoutWidth(c, s); got != greatest {
		t.Fatalf("LayoutWidth(%s, %q) = %d, want %d", configText(c), s, got, greatest)
	}
}

func TestLayLine(t *testing.T) {
	two := line(10, "ab", "c", "tail")
	for _, x := range []struct {
		c      impl.Config
		l      impl.Line
		widths []int
		want   string
	}{
		// Without cells.
		{ordinaryConfig, impl.Line{}, nil, ""},
		{ordinaryConfig, impl.Line{}, []int{}, ""},
		{ordinaryConfig, impl.Line{Cells: []impl.Cell{}, End: 10}, nil, "\n"},
		{ordinaryConfig, line(0, "abc"), nil, "abc"},
		{rightLined, line(10, "abc"), nil, "abc\n"},
		{shortTabs, line(12, "abc"), []int{}, "abc\n"},
		// To the left and to the right, with and without lines.
		{ordinaryConfig, two, []int{4, 3}, "ab  c  tail\n"},
		{rightConfig, two, []int{4, 3}, "  ab  ctail\n"},
		{linedConfig, two, []int{4, 3}, "ab  |c  |tail\n"},
		{rightLined, two, []int{4, 3}, "  ab|  c|tail\n"},
		{dotsConfig, two, []int{4, 3}, "ab..c..tail\n"},
		{linedConfig, line(0, "a", ""), []int{2}, "a |"},
		{rightLined, line(0, "", "", "x"), []int{2, 0}, "  ||x"},
		// Widths that are smaller than, equal to and greater than Width of the cell.
		{ordinaryConfig, line(0, "abc", "x"), []int{0}, "abcx"},
		{ordinaryConfig, line(0, "abc", "x"), []int{2}, "abcx"},
		{ordinaryConfig, line(0, "abc", "x"), []int{3}, "abcx"},
		{ordinaryConfig, line(0, "abc", "x"), []int{4}, "abc x"},
		{rightConfig, line(0, "abc", "x"), []int{2}, "abcx"},
		{rightConfig, line(0, "abc", "x"), []int{3}, "abcx"},
		{rightConfig, line(0, "abc", "x"), []int{4}, " abcx"},
		{rightLined, line(0, "abc", "abc", "x"), []int{2, 5}, "abc|  abc|x"},
		{linedConfig, line(0, "abc", "abc", "x"), []int{5, 2}, "abc  |abc|x"},
		// Each cell has its own width.
		{dotsConfig, line(10, "a", "bb", "ccc", "", "d"), []int{1, 4, 3, 2}, "abb..ccc..d\n"},
		// Tabs: the filling is rounded up.
		{shortTabs, line(0, "abcd", "x"), []int{8}, "abcd\tx"},
		{shortTabs, line(0, "a", "x"), []int{8}, "a\t\tx"},
		{shortTabs, line(0, "abc", "x"), []int{8}, "abc\t\tx"},
		{shortTabs, line(0, "abcdefg", "x"), []int{8}, "abcdefg\tx"},
		{shortTabs, line(0, "abcdefgh", "x"), []int{8}, "abcdefghx"},
		{shortTabs, line(0, "abcdefghi", "x"), []int{8}, "abcdefghix"},
		{shortTabs, line(0, "ab", "x"), []int{7}, "ab\t\tx"},
		{shortTabs, line(0, "ab", "x"), []int{6}, "ab\tx"},
		{shortTabs, line(0, "ab", "x"), []int{3}, "ab\tx"},
		{linedTabs, line(10, "ab", "", "x"), []int{8, 4}, "ab\t\t|\t|x\n"},
		{linedTabs, line(10, "ab", "", "x"), []int{2, 0}, "ab||x\n"},
		// Width counts, whatever the text is.
		{ordinaryConfig, impl.Line{Cells: []impl.Cell{cellWith("abc", 1)}}, []int{3}, "abc  "},
		{rightConfig, impl.Line{Cells: []impl.Cell{cellWith("", 2)}}, []int{3}, " "},
		{ordinaryConfig, impl.Line{Cells: []impl.Cell{cellWith("\u4e2d", 2), cellWith("<b>", 0), cellWith("e\u0301", 1)}}, []int{3, 1, 2}, "\u4e2d <b> e\u0301 "},
		// Texts are taken as they are.
		{linedConfig, line(10, "a\tb", "\n", "|\f\xff"), []int{4, 1}, "a\tb  |\n |" + "|\f\xff\n"},
		{escapesConfig, line(0, "\xff", "\xe4\xb8"), []int{2}, "\xff \xe4\xb8"},
		// Neither Min nor Padding nor Drop has an influence.
		{impl.Config{Min: 200, Tab: 8, Padding: 32, Pad: 32, Drop: true}, line(0, "a", "", "b"), []int{2, 1}, "a  b"},
		{impl.Config{Min: 200, Tab: 8, Padding: 32, Pad: 126, Drop: true, Right: true}, line(0, "", "", "b"), []int{0, 2}, "~~b"},
	} {
		if got := impl.LayLine(x.c, x.l, x.widths); got != x.want {
			t.Errorf("LayLine(%s, %+v, %v) = %q, want %q", configText(x.c), x.l, x.widths, got, x.want)
		}
		if got := layLine(x.c, x.l, x.widths); got != x.want {
			t.Errorf("by the definition, LayLine(%s, %+v, %v) = %q, want %q", configText(x.c), x.l, x.widths, got, x.want)
		}
	}
}

// Every End but 0 becomes a newline.
func TestLayLineWithEnds(t *testing.T) {
	for _, end := range []int{0, 10, 12, 1, 9, 11, 13, 32, 255, 256, -1, -10, -12, 256 + 10, 1 << 32, 1<<32 + 10, 12 << 32, math.MaxInt, math.MinInt} {
		ending := "\n"
		if end == 0 {
			ending = ""
		}
		for _, x := range []struct {
			l      impl.Line
			widths []int
			want   string
		}{
			{line(end, ""), nil, ""}, {line(end, "a"), nil, "a"}, {line(end, "a", ""), []int{2}, "a "}, {line(end, "a", "b", "c"), []int{2, 0}, "a bc"},
		} {
			if got := impl.LayLine(ordinaryConfig, x.l, x.widths); got != x.want+ending {
				t.Errorf("LayLine(%+v, %v) = %q, want %q", x.l, x.widths, got, x.want+ending)
			}
		}
	}
}

func TestLayLineWithWidths(t *testing.T) {
	for _, n := range []int{-1, -2, 0, 1, 2, 3, 5, 99999, 100000, 100001, 100002, 100199, 100200, 100201, 100202, 200000, 1 << 32, 1<<32 + 5, -1 << 32, 5 - 1<<32, math.MaxInt, math.MinInt} {
		for at := range 3 {
			widths := []int{4, 0, 1}
			widths[at] = n
			l := line(10, "ab", "c", "", "tail")
			for _, c := range layoutConfigs {
				got, want := impl.LayLine(c, l, widths), layLine(c, l, widths)
				if got != want || (n >= 0 && n <= 100200) != (got != "") {
					t.Errorf("LayLine(%s, %+v, %v) has %d bytes, want %d", configText(c), l, widths, len(got), len(want))
				}
			}
		}
	}
}

func TestLayLineWithWidthsOfCells(t *testing.T) {
	for _, n := range []int{-1, -2, 0, 1, 4, 5, 99999, 100000, 100001, 100150, 100199, 100200, 100201, 1 << 32, 1<<32 + 1, -1 << 32, 1 - 1<<32, math.MaxInt, math.MaxInt - 1, math.MinInt, math.MinInt + 1} {
		for at := range 3 {
			l := line(12, "ab", "c", "", "tail")
			l.Cells[at].Width = n
			for _, widths := range [][]int{{4, 4, 4}, {0, 0, 0}, {100200, 0, 100200}, {100000, 100000, 1}} {
				for _, c := range layoutConfigs {
					got, want := impl.LayLine(c, l, widths), layLine(c, l, widths)
					if got != want || (n >= 0) != (got != "") {
						t.Errorf("LayLine(%s, %+v, %v) has %d bytes, want %d", configText(c), l, widths, len(got), len(want))
					}
				}
			}
		}
	}
}

// The Width of a Tail has no influence, even if it is negative.
func TestLayLineWithWidthsOfTails(t *testing.T) {
	for _, n := range []int{-1, 0, 1, 100000, 100001, 100201, math.MaxInt, math.MinInt} {
		l := line(10, "a", "tail")
		l.Tail.Width = n
		if got := impl.LayLine(rightLined, l, []int{3}); got != "  a|tail\n" {
			t.Errorf("LayLine(%+v) = %q", l, got)
		}
		if got := impl.LayLines(ordinaryConfig, []impl.Line{l, l}); got != "a tail\na tail\n" {
			t.Errorf("LayLines(%+v) twice = %q", l, got)
		}
	}
}

// Fillings around and beyond the greatest one that Filling forms, alone and after others.
func TestLongFillingsOfCells(t *testing.T) {
	for _, x := range []struct{ pad, tab, width, cell, bytes int }{
		{32, 8, 100000, 0, 100000}, {32, 8, 100001, 1, 100000}, {32, 8, 100001, 0, 100001}, {46, 8, 100002, 0, 100002}, {126, 1, 100200, 0, 100200}, {32, 8, 100200, 199, 100001}, {32, 8, 100200, 200, 100000}, {32, 8, 100200, 100000, 200}, {32, 8, 100200, 100199, 1}, {32, 8, 100200, 100200, 0},
		{9, 8, 100000, 0, 12500}, {9, 8, 100001, 0, 12501}, {9, 8, 100001, 1, 12500}, {9, 8, 100200, 0, 12525}, {9, 8, 100193, 0, 12525}, {9, 8, 100192, 0, 12524}, {9, 1, 100001, 0, 100001}, {9, 1, 100200, 0, 100200}, {9, 7, 100200, 0, 14315}, {9, 32, 100200, 0, 3132}, {9, 32, 100200, 100199, 1}, {9, 32, 100200, 100168, 1}, {9, 32, 100200, 100167, 2},
	} {
		c := impl.Config{Tab: x.tab, Pad: x.pad}
		l := impl.Line{Cells: []impl.Cell{cellWith("a", x.cell), cellWith("b", x.cell)}, Tail: cellWith("c", 1), End: 10}
		filling := strings.Repeat(string(rune(x.pad)), x.bytes)
		if got := impl.LayLine(c, l, []int{x.width, x.width}); got != "a"+filling+"b"+filling+"c\n" {
			t.Errorf("with Pad %d and Tab %d, two cells with the Width %d and the width %d have %d bytes, want fillings with %d", x.pad, x.tab, x.cell, x.width, len(got), x.bytes)
		}
		if c.Right = x.pad != 9; !c.Right {
			continue
		}
		if got := impl.LayLine(c, l, []int{x.width, x.width}); got != filling+"a"+filling+"bc\n" {
			t.Errorf("with Pad %d and Right, two cells with the Width %d and the width %d have %d bytes, want fillings with %d", x.pad, x.cell, x.width, len(got), x.bytes)
		}
	}
}

func TestLayLineWithOtherNumbersOfWidths(t *testing.T) {
	for cells := range 5 {
		l := line(10, slices.Repeat([]string{"a"}, cells+1)...)
		for count := range 8 {
			widths := slices.Repeat([]int{2}, count)
			for _, c := range layoutConfigs {
				got := impl.LayLine(c, l, widths)
				if got != layLine(c, l, widths) || (cells == count) != (got != "") {
					t.Errorf("LayLine(%s) of %d cells with %d widths = %q", configText(c), cells, count, got)
				}
			}
		}
	}
	// What is behind a slice does not belong to it.
	cells, widths := line(0, "a", "b", "c", "").Cells, []int{2, 2, 2}
	if got := impl.LayLine(ordinaryConfig, impl.Line{Cells: cells[:1], End: 10}, widths[:2]); got != "" {
		t.Errorf("LayLine of one of three cells with two of three widths = %q", got)
	}
	if got := impl.LayLine(ordinaryConfig, impl.Line{Cells: cells[:2], End: 10}, widths[:1]); got != "" {
		t.Errorf("LayLine of two of three cells with one of three widths = %q", got)
	}
}

func TestLayLineByDefinition(t *testing.T) {
	var lines []impl.Line
	for _, a := range []impl.Cell{cellWith("", 0), cellWith("abc", 3), cellWith("\u4e2d", 2), cellWith("<b>", 0), cellWith("x", 100001), cellWith("y", -1)} {
		for _, b := range []impl.Cell{cellWith("z", 1), cellWith("\xff\t", 7)} {
			lines = append(lines, impl.Line{Cells: []impl.Cell{a}, Tail: b}, impl.Line{Cells: []impl.Cell{b, a}, Tail: a, End: 10})
		}
	}
	for _, c := range allLayoutConfigs {
		for _, l := range lines {
			for _, first := range []int{-1, 0, 1, 2, 3, 4, 8, 100001, 100201} {
				for _, second := range []int{0, 3, 9, 17} {
					for _, widths := range [][]int{nil, {first}, {first, second}, {second, first}, {first, second, 1}} {
						if got, want := impl.LayLine(c, l, widths), layLine(c, l, widths); got != want {
							t.Fatalf("LayLine(%s, %+v, %v) = %.60q with %d bytes, want %.60q with %d", configText(c), l, widths, got, len(got), want, len(want))
						}
					}
				}
			}
		}
	}
}

func TestLayoutsOfTexts(t *testing.T) {
	for _, x := range []struct {
		c           impl.Config
		text, want  string
		slots       [][]int
		layoutWidth int
	}{
		// No cells.
		{ordinaryConfig, "", "", [][]int{{0}}, 0},
		{ordinaryConfig, "abc", "abc", [][]int{{0}}, 3},
		{ordinaryConfig, "a\nbc\n", "a\nbc\n", [][]int{{0}, {0}, {0}}, 2},
		{rightLined, "\n\f\nab", "\n\n\nab", [][]int{{0}, {0}, {0}, {0}}, 2},
		// One line.
		{ordinaryConfig, "ab\tc", "ab c", [][]int{{0, 3}}, 4},
		{ordinaryConfig, "ab\tc\n", "ab c\n", [][]int{{0, 3}, {0}}, 4},
		{ordinaryConfig, "\t\t", "  ", [][]int{{0, 1, 2}}, 2},
		{rightConfig, "ab\tc", " abc", [][]int{{0, 3}}, 4},
		{linedConfig, "ab\tcd\t", "ab |cd |", [][]int{{0, 4, 8}}, 8},
		{rightLined, "ab\tcd\te", " ab| cd|e", [][]int{{0, 4, 8}}, 9},
		{dotsConfig, "ab\tc", "ab..c", [][]int{{0, 4}}, 5},
		// One block.
		{ordinaryConfig, "a\tb\nlong\td\n", "a    b\nlong d\n", [][]int{{0, 5}, {0, 5}, {0}}, 6},
		{rightConfig, "a\tb\nlong\td", "    ab\n longd", [][]int{{0, 5}, {0, 5}}, 6},
		{rightLined, "a\tb\nlong\td", "    a|b\n long|d", [][]int{{0, 6}, {0, 6}}, 7},
		{linedConfig, "\tb\n\u4e2d\td", "   |b\n\u4e2d |d", [][]int{{0, 4}, {0, 4}}, 5},
		{ordinaryConfig, "\xff\xfe\t.\ne\u0301\t.", "\xff\xfe .\ne\u0301  .", [][]int{{0, 3}, {0, 3}}, 4},
		// Several blocks.
		{ordinaryConfig, "a\tbb\tccc\nlong\td\nx\ny\tz\n", "a    bb ccc\nlong d\nx\ny z\n", [][]int{{0, 5, 8}, {0, 5}, {0}, {0, 2}, {0}}, 11},
		{ordinaryConfig, "a\t\naaa\t\tb\na\tb\tc", "a   \naaa   b\na   b c", [][]int{{0, 4}, {0, 4, 6}, {0, 4, 6}}, 7},
		{linedConfig, "a\t\naaa\t\tb\na\tb\tc", "a   |\naaa |  |b\na   |b |c", [][]int{{0, 5}, {0, 5, 8}, {0, 5, 8}}, 9},
		{rightConfig, "a\tb\t\naaa\t\nx\tbbb\t", "   a b\n aaa\n   x bbb", [][]int{{0, 4, 6}, {0, 4}, {0, 4, 8}}, 8},
		// A form feed becomes a newline and ends the blocks.
		{ordinaryConfig, "a\fb", "a\nb", [][]int{{0}, {0}}, 1},
		{ordinaryConfig, "a\tb\flong\tc", "a b\nlong c", [][]int{{0, 2}, {0, 5}}, 6},
		{ordinaryConfig, "a\tb\nlong\tc\f\td\f", "a    b\nlong c\n d\n", [][]int{{0, 5}, {0, 5}, {0, 1}, {0}}, 6},
		// Tabs.
		{shortTabs, "abcd\tx\na\ty", "abcd\tx\na\t\ty", [][]int{{0, 8}, {0, 8}}, 9},
		{shortTabs, "abc\tx\na\tyy\t", "abc\tx\na\tyy\t", [][]int{{0, 4}, {0, 4, 8}}, 8},
		{linedTabs, "abc\tx\na\tyy\t", "abc\t|x\na\t|yy\t|", [][]int{{0, 5}, {0, 5, 10}}, 10},
		{tabConfig, "\t\n1234567\t\n12345678\t.", "\t\t\n1234567\t\t\n12345678\t.", [][]int{{0, 16}, {0, 16}, {0, 16}}, 17},
		// Min, and columns that are dropped.
		{impl.Config{Min: 4, Tab: 8, Padding: 1, Pad: 46}, "\ta\tbcde\t.", "....a...bcde..", [][]int{{0, 4, 8, 13}}, 14},
		{droppingConfig, "\ta\t.\n\tbc\t.", "a  .\nbc .", [][]int{{0, 0, 3}, {0, 0, 3}}, 4},
		{withFlags(impl.DefaultConfig(), dropBit|linesBit), "\ta\t.\n\tbc\t.", "|a  |.\n|bc |.", [][]int{{0, 1, 5}, {0, 1, 5}}, 6},
		{withFlags(impl.DefaultConfig(), dropBit|markupBit), "<b>\ta\t", "<b>a ", [][]int{{0, 0, 2}}, 2},
		// Escapes are left out, and what is between them is text.
		{ordinaryConfig, "\xffa\t\xff", "\xffa \xff", [][]int{{0, 3}}, 4},
		{escapesConfig, "\xffa\t\xffb\tc\nx\ty", "a\tb c\nx  y", [][]int{{0, 3}, {0, 3}}, 4},
		{escapesConfig, "a\t\xff\n\xff\tb\nlong\t\tc", "a    \n b\nlong  c", [][]int{{0, 5, 6}, {0, 5, 6}}, 7},
		{escapesConfig, "a\tb\n\xff\tc\n", "a b\n\tc\n", [][]int{{0, 2}, {0}}, 3},
		// Markup has no width but that of entities.
		{markupConfig, "<b>a</b>\tc\nabc\td&lt;", "<b>a</b>   c\nabc d&lt;", [][]int{{0, 4}, {0, 4}}, 6},
		{ordinaryConfig, "<b>\tc\na\td&lt;", "<b> c\na   d&lt;", [][]int{{0, 4}, {0, 4}}, 9},
		{bothConfig, "\xff<\t>\xff&b;\t<i>\nab\tc", "<\t>&b;  <i>\nab c", [][]int{{0, 3}, {0, 3}}, 4},
		// The widest line of the layout is the first, the last, one in the middle, or one of several.
		{ordinaryConfig, "abcdef\na\tb\nc", "abcdef\na b\nc", [][]int{{0}, {0, 2}, {0}}, 6},
		{ordinaryConfig, "a\na\tbcd\n", "a\na bcd\n", [][]int{{0}, {0, 2}, {0}}, 5},
		{ordinaryConfig, "a\tb\t\naaaa\t\nabc", "a    b \naaaa \nabc", [][]int{{0, 5, 7}, {0, 5}, {0}}, 7},
		{ordinaryConfig, "a\tbb\na\tcc\nx", "a bb\na cc\nx", [][]int{{0, 2}, {0, 2}, {0}}, 4},
		{ordinaryConfig, "a\tb\nabc", "a b\nabc", [][]int{{0, 2}, {0}}, 3},
	} {
		if got := impl.Layout(x.c, x.text); got != x.want {
			t.Errorf("Layout(%s, %q) = %q, want %q", configText(x.c), x.text, got, x.want)
		}
		if got := impl.LayLines(x.c, impl.SplitText(x.c, x.text)); got != x.want {
			t.Errorf("LayLines(%s) of the lines of %q = %q, want %q", configText(x.c), x.text, got, x.want)
		}
		if got := impl.SlotsOf(x.c, x.text); !sameWidths(got, x.slots) {
			t.Errorf("SlotsOf(%s, %q) = %v, want %v", configText(x.c), x.text, got, x.slots)
		}
		if !impl.IsAligned(x.c, x.text) {
			t.Errorf("IsAligned(%s, %q) is false", configText(x.c), x.text)
		}
		if got := impl.LayoutWidth(x.c, x.text); got != x.layoutWidth {
			t.Errorf("LayoutWidth(%s, %q) = %d, want %d", configText(x.c), x.text, got, x.layoutWidth)
		}
		checkLayout(t, x.c, x.text)
	}
}

func TestLayLines(t *testing.T) {
	for _, x := range []struct {
		list []impl.Line
		want string
	}{
		{nil, ""},
		{[]impl.Line{}, ""},
		{[]impl.Line{{}}, ""},
		{[]impl.Line{{}, {End: 12}, {Tail: cellWith("a", 9)}}, "\na"},
		// Widths are those of the lines, whatever the texts are.
		{[]impl.Line{{Cells: []impl.Cell{cellWith("a", 3)}, End: 10}, {Cells: []impl.Cell{cellWith("bcd", 0)}}}, "a \nbcd    "},
		// Lines without an end, and with others, are parts of a block; a form feed ends it.
		{[]impl.Line{line(0, "a", "x"), line(7, "aaa", "y"), line(-1, "aa", "z"), line(12, "", ""), line(10, "a", "")}, "a   xaaa y\naa  z\n    \na \n"},
		{[]impl.Line{line(10, "", "long", ""), line(256+12, "a", "b")}, "  long \na b\n"},
	} {
		if got := impl.LayLines(ordinaryConfig, x.list); got != x.want {
			t.Errorf("LayLines(%+v) = %q, want %q", x.list, got, x.want)
		}
	}
	for _, c := range allLayoutConfigs {
		if none, empty := impl.LayLines(c, nil), impl.LayLines(c, []impl.Line{}); none != "" || empty != "" {
			t.Errorf("no lines are laid as %q and %q with %s", none, empty, configText(c))
		}
	}
}

// A Width that WidthsOf does not accept, in any cell, leaves nothing of all lines; the greatest one that it accepts can lead to fillings beyond 100000.
func TestLayLinesWithWidthsOfCells(t *testing.T) {
	sizes := []int{2, 0, 1, 2}
	for _, n := range []int{-1, -2, 0, 1, 99999, 100000, 100001, 100200, 100201, 1 << 32, 1<<32 + 1, 1 - 1<<32, math.MaxInt, math.MinInt} {
		for at, size := range sizes {
			for column := range size {
				var list []impl.Line
				for _, s := range sizes {
					list = append(list, lineOfWidths(10, make([]int, s)...))
				}
				list[at].Cells[column].Width = n
				for _, c := range allLayoutConfigs {
					got, want := impl.LayLines(c, list), layLines(c, list)
					if got != want || (n >= 0 && n <= 100000) != (got != "") {
						t.Fatalf("LayLines(%s, %+v) has %d bytes, want %d", configText(c), list, len(got), len(want))
					}
				}
			}
		}
	}
}

func TestLongFillingsOfLines(t *testing.T) {
	for _, x := range []struct {
		c      impl.Config
		widest int
		bytes  int
	}{
		{impl.Config{Tab: 8, Padding: 0, Pad: 32}, 100000, 100000},
		{impl.Config{Tab: 8, Padding: 1, Pad: 32}, 100000, 100001},
		{impl.Config{Tab: 8, Padding: 32, Pad: 32}, 100000, 100032},
		{impl.Config{Tab: 8, Padding: 0, Pad: 9}, 100000, 12500},
		{impl.Config{Tab: 8, Padding: 1, Pad: 9}, 100000, 12501},
		{impl.Config{Tab: 1, Padding: 32, Pad: 9}, 100000, 100032},
		{impl.Config{Tab: 31, Padding: 32, Pad: 9}, 100000, 3227},
	} {
		list := []impl.Line{{Cells: []impl.Cell{cellWith("a", x.widest)}, End: 12}, {Cells: []impl.Cell{cellWith("b", x.widest)}, End: 10}, {Cells: []impl.Cell{cellWith("", 0)}, Tail: cellWith("c", 1)}}
		filling := strings.Repeat(string(rune(x.c.Pad)), x.bytes)
		if got := impl.LayLines(x.c, list); !strings.HasPrefix(got, "a") || !strings.HasSuffix(got, "\n"+filling+"c") {
			t.Errorf("with %s, the empty cell below one with the Width %d is not filled with %d bytes", configText(x.c), x.widest, x.bytes)
		}
	}
}

// A text with a cell that is too wide has no layout: there is nothing at any column.
func TestLayoutsOfTooWideTexts(t *testing.T) {
	wide := strings.Repeat("a", 100000)
	for _, c := range []impl.Config{ordinaryConfig, rightLined, linedTabs} {
		for _, s := range []string{wide + "a\tb", "b\t" + wide + "a\t", "x\ty\n\n" + wide + "a\tb\nc", strings.Repeat("\u4e2d", 50001) + "\tb\n"} {
			slots, width := impl.SlotsOf(c, s), impl.LayoutWidth(c, s)
			if impl.Layout(c, s) != "" || slots != nil || width != 0 || !impl.IsAligned(c, s) {
				t.Errorf("with %s, a text with a cell that is too wide has the layout %.9q.., the slots %v and the width %d", configText(c), impl.Layout(c, s), slots, width)
			}
		}
		// One that is just not too wide, and a tail that may have any width.
		for _, s := range []string{wide + "\tb\na\tc", wide + "a\nb\tc", "a\t\nb\t" + wide + "aa"} {
			list := impl.SplitText(c, s)
			if got := impl.Layout(c, s); got == "" || got != layLines(c, list) || len(impl.SlotsOf(c, s)) != len(list) || !impl.IsAligned(c, s) {
				t.Errorf("with %s, a text with %d bytes has a layout with %d bytes, want %d", configText(c), len(s), len(got), len(layLines(c, list)))
			}
		}
	}
	if got := impl.LayoutWidth(ordinaryConfig, wide+"\tbc\na"); got != 100003 {
		t.Errorf("LayoutWidth of a cell with the width 100000 and a tail with the width 2 = %d", got)
	}
	if got := impl.LayoutWidth(linedConfig, "a\t"+wide+wide); got != 200003 {
		t.Errorf("LayoutWidth of a tail with the width 200000 = %d", got)
	}
}

// P9 for texts, and P3 by the slots.
func TestLayoutsByDefinition(t *testing.T) {
	for _, s := range append(textsOver("a\t\n\f", 6), textsOfPieces(cellPieces, 3)...) {
		for _, c := range []impl.Config{ordinaryConfig, rightLined, withFlags(tabConfig, dropBit|linesBit|escapesBit|markupBit)} {
			checkLayout(t, c, s)
		}
	}
}

// All flags with all kinds of numbers, on texts with everything that has a meaning.
func TestLayoutsOfConfigs(t *testing.T) {
	texts := []string{"", "a\tb\n\tc\f\xff\td\n\xff<b>\t\n&lt;\t.", "\u4e2d\t\te\u0301\naaaaaaaa\tb\t<b>c\td", "x\n\t\n\t\t\na\t\xff\n\xff\t|"}
	for bits := range 32 {
		for _, c := range []impl.Config{plainConfig, tabConfig, shortTabs, {Min: 200, Tab: 32, Padding: 32, Pad: 124}, {Min: 9, Tab: 5, Padding: 0, Pad: 9}, {Tab: 1, Pad: 32}} {
			c = withFlags(c, bits)
			c.Right = c.Right && c.Pad != 9
			for _, s := range texts {
				checkLayout(t, c, s)
			}
		}
	}
}

// P3 as it is seen, without lines between the columns of a layout with tabs, which move the tab stops.
func TestLayoutsAsTheyAreSeen(t *testing.T) {
	texts := textsOfPieces([]string{"a", "bcd", "\u4e2d", "e\u0301", "\t", "\n", "\f"}, 5)
	texts = append(texts, "ab\tcdefghi\t\njklmnopqrstu\t\tv\n\t\t\tw\nx\n\ty\f12345678\t1\n1234567\t\t\u4e2d\u4e2d\u4e2d\u4e2d\t.")
	for _, c := range []impl.Config{ordinaryConfig, rightLined, {Min: 3, Tab: 8, Padding: 0, Pad: 46, Lines: true}, {Min: 2, Tab: 3, Padding: 0, Pad: 9, Drop: true}} {
		for _, s := range texts {
			checkSeen(t, c, s)
		}
	}
}

// With other settings of Pad and Tab, what is laid is seen at the same slots.
func TestTabStopsAsTheyAreSeen(t *testing.T) {
	const s = "a\tbb\tccc\n\u4e2d\u4e2d\u4e2d\u4e2d\t\t\tx\n123456789012345\ty\n\nz\t\n"
	for tab := 1; tab <= 32; tab++ {
		for padding := 0; padding <= 32; padding++ {
			checkSeen(t, impl.Config{Min: tab / 2, Tab: tab, Padding: padding, Pad: 9}, s)
			checkSeen(t, impl.Config{Min: padding, Tab: tab, Padding: padding, Pad: 32 + tab, Right: true}, s)
		}
	}
}

func TestLayoutsOfInvalidConfigs(t *testing.T) {
	for _, c := range invalidConfigsWithFlags() {
		for _, l := range []impl.Line{{}, {End: 10}, line(10, "a"), line(0, "a", "b")} {
			widths := slices.Repeat([]int{3}, len(l.Cells))
			if got, all := impl.LayLine(c, l, widths), impl.LayLines(c, []impl.Line{l, l}); got != "" || all != "" {
				t.Errorf("with %+v, %+v is laid as %q and, twice, as %q", c, l, got, all)
			}
		}
		for _, s := range []string{"", "a", "a\tb\n\t", "\n\f"} {
			slots, width := impl.SlotsOf(c, s), impl.LayoutWidth(c, s)
			if impl.Layout(c, s) != "" || slots != nil || impl.IsAligned(c, s) || width != 0 {
				t.Errorf("with %+v, %q has the layout %q, the slots %v, %v and the width %d", c, s, impl.Layout(c, s), slots, impl.IsAligned(c, s), width)
			}
		}
		if got := impl.LayLines(c, nil); got != "" {
			t.Errorf("with %+v, no lines are laid as %q", c, got)
		}
	}
}

func TestLongLayouts(t *testing.T) {
	const n = 30000
	for _, x := range []struct {
		text, want string
		width      int
	}{
		{strings.Repeat("\t", n), strings.Repeat(" ", n), n},
		{strings.Repeat("\t\n", n), strings.Repeat(" \n", n), 1},
		{strings.Repeat("a\tb\f", n), strings.Repeat("a b\n", n), 3},
		{strings.Repeat("a\n", n), strings.Repeat("a\n", n), 1},
		{strings.Repeat("a\t\n", n) + "abc\t", strings.Repeat("a   \n", n) + "abc ", 4},
		{strings.Repeat("a\t", n) + "\n" + strings.Repeat("bc\t", n), strings.Repeat("a  ", n) + "\n" + strings.Repeat("bc ", n), 3 * n},
	} {
		if impl.Layout(ordinaryConfig, x.text) != x.want {
			t.Errorf("Layout(%.9q..) = %.9q.. is not as expected", x.text, impl.Layout(ordinaryConfig, x.text))
		}
		if got := impl.LayoutWidth(ordinaryConfig, x.text); got != x.width || !impl.IsAligned(ordinaryConfig, x.text) {
			t.Errorf("LayoutWidth(%.9q..) = %d, want %d", x.text, got, x.width)
		}
	}
}

// Chapter 1: results share no memory with each other or with what later calls return, and arguments do not change.
func TestLayoutResultsAreNew(t *testing.T) {
	const s = "a\tb\tc\nlong\td\nx\ny\tz"
	want := slotsOf(ordinaryConfig, s)
	for i := range want {
		slots := impl.SlotsOf(ordinaryConfig, s)
		_ = append(slots[i], 70, 71, 72)
		if !sameWidths(slots, want) {
			t.Errorf("the slots are %v after those of line %d were appended to", slots, i)
		}
		slots[i][0] = 73
		slots[i] = want[i]
		if !sameWidths(slots, want) || !sameWidths(impl.SlotsOf(ordinaryConfig, s), want) {
			t.Errorf("the slots are %v after one of line %d was changed", slots, i)
		}
	}
	newCells := func() []impl.Cell { return line(0, "a", "bb", "ccc", "").Cells }
	newLines := func(cells []impl.Cell) []impl.Line {
		return []impl.Line{{Cells: cells[:2], End: 10}, {Cells: cells[1:2]}, {Cells: cells[:1], End: 12}, {Cells: cells, End: 7}}
	}
	cells, widths := newCells(), []int{4, 5, 6, 7}
	backing := newLines(cells)
	for range 2 {
		if got := impl.LayLines(ordinaryConfig, backing[:3]); got != "a  bb \nbb a  \n" {
			t.Errorf("LayLines of the first three of %+v = %q", backing, got)
		}
		if got := impl.LayLine(rightLined, backing[0], widths[:2]); got != "   a|   bb|\n" {
			t.Errorf("LayLine(%+v) = %q", backing[0], got)
		}
	}
	if !slices.Equal(cells, newCells()) || !sameLines(backing, newLines(newCells())) || !slices.Equal(widths, []int{4, 5, 6, 7}) {
		t.Errorf("the arguments are %+v, %+v and %v afterwards", cells, backing, widths)
	}
}
