package tests

import (
	"fmt"
	"math"
	"slices"
	"strings"
	"testing"

	"loop.example/g00819/impl"
)

// dropBit is the flag of withFlags that has an influence on blocks.
const dropBit = 2

var (
	droppingConfig = withFlags(impl.DefaultConfig(), dropBit)
	blockConfigs   = []impl.Config{
		ordinaryConfig,
		droppingConfig,
		plainConfig,
		tabConfig,
		{Min: 5, Tab: 3, Padding: 0, Pad: 9, Drop: true},
		{Min: 200, Tab: 32, Padding: 32, Pad: 124, Right: true, Drop: true, Lines: true, Escapes: true, Markup: true},
	}
)

// lineOfWidths returns a line whose cells have these Widths, which are not those of their texts.
func lineOfWidths(end int, widths ...int) impl.Line {
	l := impl.Line{Tail: impl.Cell{Text: "tail", Width: 77}, End: end}
	for _, n := range widths {
		l.Cells = append(l.Cells, impl.Cell{Text: "text", Width: n})
	}
	return l
}

func block(column, from, to, width int) impl.Block {
	return impl.Block{Column: column, From: from, To: to, Width: width}
}

// inOneBlock reports whether the line with the index i and the one after it belong to the same block of a column.
func inOneBlock(list []impl.Line, i int, column int) bool {
	return i >= 0 && i+1 < len(list) && len(list[i].Cells) > column && len(list[i+1].Cells) > column && list[i].End != 12
}

// isBlock is the document's condition for the lines of a block.
func isBlock(list []impl.Line, column int, from int, to int) bool {
	for i := from; i < to; i++ {
		if len(list[i].Cells) <= column || i > from && !inOneBlock(list, i-1, column) {
			return false
		}
	}
	return from < to && !inOneBlock(list, from-1, column) && !inOneBlock(list, to-1, column)
}

// widthOfBlock looks for the multiple of Tab one by one.
func widthOfBlock(c impl.Config, greatest int) int {
	if c.Drop && greatest == 0 {
		return 0
	}
	n := greatest + c.Padding
	if n < c.Min {
		n = c.Min
	}
	for c.Pad == 9 && n%c.Tab != 0 {
		n++
	}
	return n
}

func hasOnlyGoodWidths(list []impl.Line) bool {
	for _, l := range list {
		for _, cell := range l.Cells {
			if cell.Width < 0 || cell.Width > 100000 {
				return false
			}
		}
	}
	return true
}

// blocksOf tries all columns and all ranges of lines.
func blocksOf(c impl.Config, list []impl.Line) []impl.Block {
	if !isConfig(c) || !hasOnlyGoodWidths(list) {
		return nil
	}
	var blocks []impl.Block
	for from := range list {
		for column := range list[from].Cells {
			for to := from + 1; to <= len(list); to++ {
				if !isBlock(list, column, from, to) {
					continue
				}
				greatest := 0
				for _, l := range list[from:to] {
					greatest = max(greatest, l.Cells[column].Width)
				}
				blocks = append(blocks, impl.Block{Column: column, From: from, To: to, Width: widthOfBlock(c, greatest)})
			}
		}
	}
	return blocks
}

// widthsOf looks each cell up in the blocks.
func widthsOf(c impl.Config, list []impl.Line) [][]int {
	if !isConfig(c) || !hasOnlyGoodWidths(list) {
		return nil
	}
	blocks := blocksOf(c, list)
	var widths [][]int
	for i, l := range list {
		var row []int
		for column := range l.Cells {
			for _, b := range blocks {
				if b.Column == column && b.From <= i && i < b.To {
					row = append(row, b.Width)
				}
			}
		}
		widths = append(widths, row)
	}
	return widths
}

func sameWidths(a, b [][]int) bool {
	return slices.EqualFunc(a, b, slices.Equal[[]int])
}

// checkBlocks compares BlocksOf and WidthsOf with the definitions.
func checkBlocks(t *testing.T, c impl.Config, list []impl.Line) {
	t.Helper()
	if got, want := impl.BlocksOf(c, list), blocksOf(c, list); !slices.Equal(got, want) {
		t.Fatalf("BlocksOf(%s, %+v) = %+v, want %+v", configText(c), list, got, want)
	}
	if got, want := impl.WidthsOf(c, list), widthsOf(c, list); !sameWidths(got, want) {
		t.Fatalf("WidthsOf(%s, %+v) = %v, want %v", configText(c), list, got, want)
	}
}

// checkCells is P3: every cell belongs to exactly one block of its column, which is at least as wide, and the blocks hold nothing but cells.
func checkCells(t *testing.T, c impl.Config, list []impl.Line) {
	t.Helper()
	blocks, widths := impl.BlocksOf(c, list), impl.WidthsOf(c, list)
	covered := 0
	for _, b := range blocks {
		covered += b.To - b.From
	}
	if covered != impl.CountCells(list) || len(widths) != len(list) {
		t.Fatalf("with %s, the blocks %+v and the widths %v are those of %+v", configText(c), blocks, widths, list)
	}
	for i, l := range list {
		if len(widths[i]) != len(l.Cells) {
			t.Fatalf("with %s, line %d of %+v has the widths %v", configText(c), i, list, widths[i])
		}
		for column, cell := range l.Cells {
			b, ok := impl.BlockAt(blocks, i, column)
			if !ok || b.Column != column || b.From > i || b.To <= i || b.Width < cell.Width || widths[i][column] != b.Width {
				t.Fatalf("with %s, the cell %d of line %d of %+v has the block %+v, %v and the width %d", configText(c), column, i, list, b, ok, widths[i][column])
			}
		}
		if b, ok := impl.BlockAt(blocks, i, len(l.Cells)); ok {
			t.Fatalf("with %s, the tail of line %d of %+v has the block %+v", configText(c), i, list, b)
		}
	}
}

// eachList calls f with all lists of up to n of these elements.
func eachList[E any](elements []E, n int, f func(list []E)) {
	lists := [][]E{nil}
	for range n {
		var longer [][]E
		for _, list := range lists {
			f(list)
			for _, e := range elements {
				longer = append(longer, append(slices.Clip(list), e))
			}
		}
		lists = longer
	}
	for _, list := range lists {
		f(list)
	}
}

func TestBlocksOfTexts(t *testing.T) {
	for _, x := range []struct {
		text   string
		blocks []impl.Block
		widths [][]int
	}{
		// No cells.
		{"", nil, [][]int{{}}},
		{"a", nil, [][]int{{}}},
		{"a\nb\n\fc", nil, [][]int{{}, {}, {}, {}}},
		// Blocks that end at the last line, with and without an ending.
		{"\t", []impl.Block{block(0, 0, 1, 1)}, [][]int{{1}}},
		{"ab\tc", []impl.Block{block(0, 0, 1, 3)}, [][]int{{3}}},
		{"ab\tc\n", []impl.Block{block(0, 0, 1, 3)}, [][]int{{3}, {}}},
		{"a\t\nbcd\t\nef\t", []impl.Block{block(0, 0, 3, 4)}, [][]int{{4}, {4}, {4}}},
		{"abc\t\na\t", []impl.Block{block(0, 0, 2, 4)}, [][]int{{4}, {4}}},
		// At a line without cells, in which the tail does not count.
		{"a\tb\tc\nlong\td\nx\ny\tz\n", []impl.Block{block(0, 0, 2, 5), block(1, 0, 1, 2), block(0, 3, 4, 2)}, [][]int{{5, 2}, {5}, {}, {2}, {}}},
		{"\ta\n\n\tb", []impl.Block{block(0, 0, 1, 1), block(0, 2, 3, 1)}, [][]int{{1}, {}, {1}}},
		{"a\nb\tc\nd\nef\t\n", []impl.Block{block(0, 1, 2, 2), block(0, 3, 4, 3)}, [][]int{{}, {2}, {}, {3}, {}}},
		// At a line with fewer cells, while those of the first columns go on.
		{"a\tbb\tccc\t\na\tb\t\na\t\n", []impl.Block{block(0, 0, 3, 2), block(1, 0, 2, 3), block(2, 0, 1, 4)}, [][]int{{2, 3, 4}, {2, 3}, {2}, {}}},
		{"a\tbb\tccc\t\naaaa\t\na\tb\tc\t", []impl.Block{block(0, 0, 3, 5), block(1, 0, 1, 3), block(2, 0, 1, 4), block(1, 2, 3, 2), block(2, 2, 3, 2)}, [][]int{{5, 3, 4}, {5}, {5, 2, 2}}},
		// Beginning later than those of the columns before them.
		{"a\t\na\tb\t\na\tb\tc\t", []impl.Block{block(0, 0, 3, 2), block(1, 1, 3, 2), block(2, 2, 3, 2)}, [][]int{{2}, {2, 2}, {2, 2, 2}}},
		{"\t\n\t\t\n\t\n\t\t\t", []impl.Block{block(0, 0, 4, 1), block(1, 1, 2, 1), block(1, 3, 4, 1), block(2, 3, 4, 1)}, [][]int{{1}, {1, 1}, {1}, {1, 1, 1}}},
		// At a form feed: in all columns, and in the next line they begin again.
		{"a\t\f\tb", []impl.Block{block(0, 0, 1, 2), block(0, 1, 2, 1)}, [][]int{{2}, {1}}},
		{"a\tb\t\fcc\tdd\t\nc\td\t", []impl.Block{block(0, 0, 1, 2), block(1, 0, 1, 2), block(0, 1, 3, 3), block(1, 1, 3, 3)}, [][]int{{2, 2}, {3, 3}, {3, 3}}},
		{"a\t\naa\tb\t\faaa\tbbb\tc\t\fa\t", []impl.Block{block(0, 0, 2, 3), block(1, 1, 2, 2), block(0, 2, 3, 4), block(1, 2, 3, 4), block(2, 2, 3, 2), block(0, 3, 4, 2)}, [][]int{{3}, {3, 2}, {4, 4, 2}, {2}}},
		{"a\t\f\f\n\tb\f", []impl.Block{block(0, 0, 1, 2), block(0, 3, 4, 1)}, [][]int{{2}, {}, {}, {1}, {}}},
		{"a\fb\t\n\t", []impl.Block{block(0, 1, 3, 2)}, [][]int{{}, {2}, {2}}},
		{"a\t\f", []impl.Block{block(0, 0, 1, 2)}, [][]int{{2}, {}}},
		// Width is counted in display columns.
		{"\u4e2d\t\u0301\t\xff\xfe\t\na\te\u0301\t", []impl.Block{block(0, 0, 2, 3), block(1, 0, 2, 2), block(2, 0, 1, 3)}, [][]int{{3, 2, 3}, {3, 2}}},
	} {
		list := impl.SplitText(ordinaryConfig, x.text)
		if got := impl.BlocksOf(ordinaryConfig, list); !slices.Equal(got, x.blocks) {
			t.Errorf("BlocksOf the lines of %q = %+v, want %+v", x.text, got, x.blocks)
		}
		if got := impl.WidthsOf(ordinaryConfig, list); !sameWidths(got, x.widths) {
			t.Errorf("WidthsOf the lines of %q = %v, want %v", x.text, got, x.widths)
		}
		if got := impl.CountBlocks(ordinaryConfig, x.text); got != len(x.blocks) {
			t.Errorf("CountBlocks(%q) = %d, want %d", x.text, got, len(x.blocks))
		}
	}
}

func TestBlocksOfNoLines(t *testing.T) {
	for _, c := range blockConfigs {
		for _, list := range [][]impl.Line{nil, {}} {
			if blocks, widths := impl.BlocksOf(c, list), impl.WidthsOf(c, list); len(blocks) != 0 || len(widths) != 0 {
				t.Errorf("no lines have the blocks %+v and the widths %v", blocks, widths)
			}
		}
		// Lines without cells have no blocks, but empty lists of widths.
		list := []impl.Line{{}, {End: 12}, {Cells: []impl.Cell{}, End: 10}, {Tail: impl.Cell{Text: "a", Width: 1}}}
		if blocks, widths := impl.BlocksOf(c, list), impl.WidthsOf(c, list); len(blocks) != 0 || !sameWidths(widths, [][]int{{}, {}, {}, {}}) {
			t.Errorf("lines without cells have the blocks %+v and the widths %v", blocks, widths)
		}
	}
}

// Only a form feed separates the lines of a block, whatever else the End of a line is.
func TestBlocksOfLinesWithOtherEnds(t *testing.T) {
	for _, end := range []int{0, 10, 1, 9, 11, 13, 32, 255, -1, -10, -12, 256 + 12, -256 + 12, 1<<32 + 12, 12 << 32, math.MaxInt, math.MinInt} {
		list := []impl.Line{lineOfWidths(end, 1, 5), lineOfWidths(end, 2), lineOfWidths(12, 3, 1), lineOfWidths(end, 4, 4), lineOfWidths(end)}
		want := []impl.Block{block(0, 0, 3, 4), block(1, 0, 1, 6), block(1, 2, 3, 2), block(0, 3, 4, 5), block(1, 3, 4, 5)}
		if got := impl.BlocksOf(ordinaryConfig, list); !slices.Equal(got, want) {
			t.Errorf("BlocksOf(%+v) = %+v, want %+v", list, got, want)
		}
		if got := impl.WidthsOf(ordinaryConfig, list); !sameWidths(got, [][]int{{4, 6}, {4}, {4, 2}, {5, 5}, {}}) {
			t.Errorf("WidthsOf(%+v) = %v", list, got)
		}
	}
}

func TestWidthOfBlock(t *testing.T) {
	for _, x := range []struct {
		c      impl.Config
		widths []int
		want   int
	}{
		// Padding is added to the greatest Width, wherever it is.
		{impl.Config{Tab: 8, Padding: 0, Pad: 32}, []int{0}, 0},
		{impl.Config{Tab: 8, Padding: 0, Pad: 32}, []int{3, 7, 5}, 7},
		{impl.Config{Tab: 8, Padding: 2, Pad: 32}, []int{7, 3, 5}, 9},
		{impl.Config{Tab: 8, Padding: 2, Pad: 46}, []int{3, 5, 7}, 9},
		{impl.Config{Tab: 8, Padding: 32, Pad: 46}, []int{0, 0}, 32},
		{impl.Config{Tab: 8, Padding: 1, Pad: 32, Right: true, Lines: true, Escapes: true, Markup: true}, []int{4}, 5},
		// Min that is smaller than, equal to and greater than this sum.
		{impl.Config{Min: 5, Tab: 8, Padding: 2, Pad: 32}, []int{4}, 6},
		{impl.Config{Min: 6, Tab: 8, Padding: 2, Pad: 32}, []int{4}, 6},
		{impl.Config{Min: 7, Tab: 8, Padding: 2, Pad: 32}, []int{4}, 7},
		{impl.Config{Min: 200, Tab: 8, Padding: 32, Pad: 32}, []int{167, 1}, 200},
		{impl.Config{Min: 200, Tab: 8, Padding: 32, Pad: 32}, []int{169, 1}, 201},
		{impl.Config{Min: 7, Tab: 8, Padding: 0, Pad: 32}, []int{0, 0}, 7},
		// With Drop, in a whole block and in a part of one.
		{impl.Config{Min: 7, Tab: 8, Padding: 2, Pad: 32, Drop: true}, []int{0}, 0},
		{impl.Config{Min: 7, Tab: 8, Padding: 2, Pad: 32, Drop: true}, []int{0, 0, 0}, 0},
		{impl.Config{Min: 7, Tab: 8, Padding: 2, Pad: 32, Drop: true}, []int{0, 1}, 7},
		{impl.Config{Min: 0, Tab: 8, Padding: 2, Pad: 32, Drop: true}, []int{1, 0}, 3},
		{impl.Config{Min: 0, Tab: 8, Padding: 0, Pad: 32, Drop: true}, []int{0, 1, 0}, 1},
		{impl.Config{Min: 7, Tab: 8, Padding: 2, Pad: 9, Drop: true}, []int{0, 0}, 0},
		{impl.Config{Min: 7, Tab: 8, Padding: 2, Pad: 9, Drop: true}, []int{0, 7}, 16},
		// Without Drop.
		{impl.Config{Min: 7, Tab: 8, Padding: 2, Pad: 32}, []int{0, 0}, 7},
		{impl.Config{Min: 0, Tab: 8, Padding: 2, Pad: 32}, []int{0}, 2},
		{impl.Config{Min: 7, Tab: 8, Padding: 2, Pad: 9}, []int{0, 0}, 8},
		// Tabs: the sum and Min are rounded up.
		{impl.Config{Tab: 8, Padding: 0, Pad: 9}, []int{0}, 0},
		{impl.Config{Tab: 8, Padding: 1, Pad: 9}, []int{0}, 8},
		{impl.Config{Tab: 8, Padding: 1, Pad: 9}, []int{3, 7}, 8},
		{impl.Config{Tab: 8, Padding: 1, Pad: 9}, []int{3, 8}, 16},
		{impl.Config{Tab: 8, Padding: 0, Pad: 9}, []int{16, 9}, 16},
		{impl.Config{Min: 17, Tab: 8, Padding: 1, Pad: 9}, []int{4}, 24},
		{impl.Config{Min: 200, Tab: 32, Padding: 1, Pad: 9}, []int{4}, 224},
		{impl.Config{Tab: 1, Padding: 2, Pad: 9}, []int{3}, 5},
		{impl.Config{Tab: 5, Padding: 2, Pad: 9}, []int{4, 3}, 10},
		// The greatest Widths.
		{impl.Config{Tab: 8, Padding: 0, Pad: 32}, []int{99999, 100000}, 100000},
		{impl.Config{Tab: 8, Padding: 1, Pad: 32}, []int{99999}, 100000},
		{impl.Config{Tab: 8, Padding: 0, Pad: 9}, []int{100000}, 100000},
		{impl.Config{Tab: 32, Padding: 0, Pad: 9}, []int{100000}, 100000},
		{impl.Config{Tab: 7, Padding: 0, Pad: 9}, []int{100000}, 100002},
		{impl.Config{Tab: 7, Padding: 0, Pad: 9}, []int{99996}, 100002},
		// Padding takes them beyond 100000.
		{impl.Config{Tab: 8, Padding: 1, Pad: 32}, []int{100000}, 100001},
		{impl.Config{Tab: 8, Padding: 2, Pad: 32, Drop: true}, []int{0, 99999}, 100001},
		{impl.Config{Min: 200, Tab: 8, Padding: 32, Pad: 32}, []int{100000, 0}, 100032},
		{impl.Config{Min: 200, Tab: 8, Padding: 32, Pad: 126, Right: true, Drop: true}, []int{100000, 100000}, 100032},
		{impl.Config{Tab: 8, Padding: 1, Pad: 9}, []int{100000}, 100008},
		{impl.Config{Tab: 1, Padding: 1, Pad: 9}, []int{100000}, 100001},
		{impl.Config{Tab: 32, Padding: 32, Pad: 9}, []int{5, 100000}, 100032},
		{impl.Config{Tab: 31, Padding: 32, Pad: 9, Drop: true}, []int{100000}, 100037},
		{impl.Config{Tab: 32, Padding: 1, Pad: 9}, []int{99999}, 100000},
		{impl.Config{Tab: 32, Padding: 2, Pad: 9}, []int{99999}, 100032},
	} {
		var list []impl.Line
		var want [][]int
		for _, n := range x.widths {
			list = append(list, lineOfWidths(10, n))
			want = append(want, []int{x.want})
		}
		if got := impl.BlocksOf(x.c, list); !slices.Equal(got, []impl.Block{block(0, 0, len(list), x.want)}) {
			t.Errorf("with %s, cells with the widths %v have the blocks %+v, want the width %d", configText(x.c), x.widths, got, x.want)
		}
		if got := impl.WidthsOf(x.c, list); !sameWidths(got, want) {
			t.Errorf("with %s, cells with the widths %v have the widths %v, want %d", configText(x.c), x.widths, got, x.want)
		}
		checkCells(t, x.c, list)
	}
}

// Drop makes a column narrow by the Widths of its cells, even if their texts are not empty, and each block by its own cells.
func TestDroppedColumns(t *testing.T) {
	c := impl.Config{Min: 4, Tab: 8, Padding: 1, Pad: 32, Drop: true, Markup: true}
	list := impl.SplitText(c, "\t<b>\ta\t\n\t\u0301\t\nx\t\t\f\ta\t\n\t\t")
	if got := impl.WidthsOf(c, list); !sameWidths(got, [][]int{{4, 0, 4}, {4, 0}, {4, 0}, {0, 4}, {0, 4}}) {
		t.Errorf("WidthsOf(%+v) = %v", list, got)
	}
	if got := impl.BlocksOf(c, list); !slices.Equal(got, []impl.Block{block(0, 0, 3, 4), block(1, 0, 3, 0), block(2, 0, 1, 4), block(0, 3, 5, 0), block(1, 3, 5, 4)}) {
		t.Errorf("BlocksOf(%+v) = %+v", list, got)
	}
	// The text of a cell does not count if its Width is given otherwise.
	wide := []impl.Line{{Cells: []impl.Cell{{Text: "abc"}, {Width: 6}}}}
	if got := impl.WidthsOf(c, wide); !sameWidths(got, [][]int{{0, 7}}) {
		t.Errorf("WidthsOf(%+v) = %v", wide, got)
	}
}

// All configurations that are valid around the edges, with lines whose blocks have widths around the edges.
func TestBlocksOfConfigs(t *testing.T) {
	list := []impl.Line{
		lineOfWidths(10, 0, 0, 199, 100000, 31), lineOfWidths(10, 0, 6, 200), lineOfWidths(10, 0, 0, 168), lineOfWidths(12, 0, 0, 0, 0), lineOfWidths(10, 1, 0, 32, 99968, 99999),
	}
	for _, c := range configsAround() {
		if isConfig(c) {
			checkBlocks(t, c, list)
			checkCells(t, c, list)
		}
	}
}

// P3, and P9 for lists of lines.
func TestBlocksByDefinition(t *testing.T) {
	var lines []impl.Line
	for _, widths := range [][]int{{}, {0}, {3}, {0, 2}, {9, 0}, {1, 0, 100000}} {
		lines = append(lines, lineOfWidths(10, widths...), lineOfWidths(12, widths...))
	}
	lines = append(lines, lineOfWidths(0, 4, 1), lineOfWidths(7, 0))
	eachList(lines, 3, func(list []impl.Line) {
		for _, c := range blockConfigs {
			checkBlocks(t, c, list)
			checkCells(t, c, list)
		}
	})
	// Longer lists, with no more than the numbers of cells.
	few := []impl.Line{lineOfWidths(10), lineOfWidths(10, 1), lineOfWidths(10, 0, 2), lineOfWidths(12, 3, 1, 0)}
	eachList(few, 6, func(list []impl.Line) {
		checkBlocks(t, droppingConfig, list)
		checkCells(t, droppingConfig, list)
	})
}

// P3, and P9 for texts.
func TestBlocksOfTextsByDefinition(t *testing.T) {
	for _, s := range append(textsOver("a\t\n\f", 6), textsOfPieces(cellPieces, 4)...) {
		for _, c := range []impl.Config{ordinaryConfig, withFlags(tabConfig, dropBit|escapesBit|markupBit)} {
			list := impl.SplitText(c, s)
			checkBlocks(t, c, list)
			checkCells(t, c, list)
			if got, want := impl.CountBlocks(c, s), len(blocksOf(c, list)); got != want {
				t.Fatalf("CountBlocks(%s, %q) = %d, want %d", configText(c), s, got, want)
			}
		}
	}
}

// Widths of cells that are out of their bounds, in each cell of some lines.
func TestBlocksOfInvalidWidths(t *testing.T) {
	sizes := []int{3, 0, 1, 2}
	for _, n := range []int{-1, -2, 100001, 100002, 1 << 32, 1<<32 + 5, -1 << 32, 256 - 1<<32, math.MaxInt, math.MaxInt - 1, math.MinInt, math.MinInt + 1, 0, 1, 99999, 100000} {
		for at, size := range sizes {
			for column := range size {
				var list []impl.Line
				for _, s := range sizes {
					list = append(list, lineOfWidths(10, make([]int, s)...))
				}
				list[at].Cells[column].Width = n
				for _, c := range blockConfigs {
					blocks, widths := impl.BlocksOf(c, list), impl.WidthsOf(c, list)
					if n >= 0 && n <= 100000 {
						checkBlocks(t, c, list)
						checkCells(t, c, list)
					} else if len(blocks) != 0 || len(widths) != 0 {
						t.Errorf("with %s, %+v has the blocks %+v and the widths %v", configText(c), list, blocks, widths)
					}
				}
			}
		}
	}
}

// A Tail belongs to no column: its Width has no influence, even if it is out of the bounds for cells.
func TestBlocksWithWidthsOfTails(t *testing.T) {
	for _, n := range []int{-1, 0, 1, 100000, 100001, math.MaxInt, math.MinInt} {
		list := []impl.Line{lineOfWidths(10, 1, 2), lineOfWidths(10, 3), lineOfWidths(12), lineOfWidths(0, 4)}
		for i := range list {
			list[i].Tail.Width = n
		}
		if got := impl.BlocksOf(ordinaryConfig, list); !slices.Equal(got, []impl.Block{block(0, 0, 2, 4), block(1, 0, 1, 3), block(0, 3, 4, 5)}) {
			t.Errorf("BlocksOf(%+v) = %+v", list, got)
		}
		if got := impl.WidthsOf(ordinaryConfig, list); !sameWidths(got, [][]int{{4, 3}, {4}, {}, {5}}) {
			t.Errorf("WidthsOf(%+v) = %v", list, got)
		}
	}
}

func TestBlockAt(t *testing.T) {
	blocks := []impl.Block{block(0, 0, 3, 5), block(1, 0, 1, 6), block(1, 2, 3, 7), block(2, 2, 3, 8), block(0, 4, 6, 9)}
	for _, x := range []struct {
		line, column int
		want         impl.Block
		ok           bool
	}{
		// In a block: its first, a middle and its last line.
		{0, 0, blocks[0], true}, {1, 0, blocks[0], true}, {2, 0, blocks[0], true}, {0, 1, blocks[1], true}, {2, 1, blocks[2], true}, {2, 2, blocks[3], true}, {4, 0, blocks[4], true}, {5, 0, blocks[4], true},
		// Before, between and behind the blocks of a column.
		{1, 2, impl.Block{}, false}, {0, 2, impl.Block{}, false}, {1, 1, impl.Block{}, false}, {3, 0, impl.Block{}, false}, {3, 1, impl.Block{}, false}, {6, 0, impl.Block{}, false}, {7, 0, impl.Block{}, false}, {3, 2, impl.Block{}, false}, {math.MaxInt, 0, impl.Block{}, false},
		// Columns that do not exist, and negative numbers.
		{0, 3, impl.Block{}, false}, {2, 3, impl.Block{}, false}, {0, math.MaxInt, impl.Block{}, false}, {-1, 0, impl.Block{}, false}, {-1, -1, impl.Block{}, false}, {0, -1, impl.Block{}, false}, {math.MinInt, 0, impl.Block{}, false}, {0, math.MinInt, impl.Block{}, false},
		{1 << 32, 0, impl.Block{}, false}, {0, 1 << 32, impl.Block{}, false},
	} {
		if got, ok := impl.BlockAt(blocks, x.line, x.column); got != x.want || ok != x.ok {
			t.Errorf("BlockAt(%+v, %d, %d) = %+v, %v, want %+v, %v", blocks, x.line, x.column, got, ok, x.want, x.ok)
		}
		if got, ok := impl.BlockAt(nil, x.line, x.column); got != (impl.Block{}) || ok {
			t.Errorf("BlockAt(nil, %d, %d) = %+v, %v", x.line, x.column, got, ok)
		}
	}
}

// The blocks can be any: overlapping, in any order, without lines, or at negative numbers.
func TestBlockAtOfOtherBlocks(t *testing.T) {
	overlapping := []impl.Block{block(0, 5, 8, 1), block(0, 0, 10, 2), block(0, 4, 6, 3), block(1, 0, 10, 4), block(1, 0, 10, 5)}
	for _, x := range []struct{ line, column, width int }{{4, 0, 2}, {5, 0, 1}, {7, 0, 1}, {8, 0, 2}, {0, 0, 2}, {5, 1, 4}} {
		if got, ok := impl.BlockAt(overlapping, x.line, x.column); got.Width != x.width || !ok {
			t.Errorf("BlockAt(%+v, %d, %d) = %+v, %v, want the width %d", overlapping, x.line, x.column, got, ok, x.width)
		}
	}
	numbers := []int{math.MinInt, -2, -1, 0, 1, 2, math.MaxInt}
	var all []impl.Block
	for _, column := range numbers {
		for _, from := range numbers {
			for _, to := range numbers {
				all = append(all, impl.Block{Column: column, From: from, To: to, Width: len(all) - 50})
			}
		}
	}
	backward := slices.Clone(all)
	slices.Reverse(backward)
	for _, blocks := range [][]impl.Block{all, backward} {
		for _, line := range numbers {
			for _, column := range append(numbers, 7) {
				var want impl.Block
				found := slices.IndexFunc(blocks, func(b impl.Block) bool { return b.Column == column && b.From <= line && line < b.To })
				if found >= 0 {
					want = blocks[found]
				}
				if got, ok := impl.BlockAt(blocks, line, column); got != want || ok != (found >= 0) {
					t.Errorf("BlockAt(%d, %d) = %+v, %v, want %+v", line, column, got, ok, want)
				}
			}
		}
	}
}

func TestCountBlocks(t *testing.T) {
	wide := strings.Repeat("a", 100000)
	for _, x := range []struct {
		c    impl.Config
		text string
		want int
	}{
		{ordinaryConfig, "", 0}, {ordinaryConfig, "a\nb", 0}, {ordinaryConfig, "a\tb", 1}, {ordinaryConfig, "a\t\f\tb", 2}, {ordinaryConfig, "\t\t\n\t\n\t\t", 3}, {ordinaryConfig, "\t\n\n\t\n", 2},
		// Escapes are taken into account if they are set.
		{ordinaryConfig, "\xff\t\xff\t", 2}, {escapesConfig, "\xff\t\xff\t", 1}, {ordinaryConfig, "\t\xff\n\xff", 1}, {escapesConfig, "\t\n\xff\n\xff\t\xff\f\xff\n\t", 1}, {escapesConfig, "\t\n\xff\n\t", 1},
		// Columns with the width 0 are blocks too.
		{droppingConfig, "\t\t\f\t", 3},
		// A cell that is too wide, and a tail that may be.
		{ordinaryConfig, wide + "\tb\t", 2}, {ordinaryConfig, wide + "a\tb\t", 0}, {ordinaryConfig, "b\t" + wide + "a\t", 0}, {ordinaryConfig, "b\t\n\n" + wide + "a", 1},
		{ordinaryConfig, wide + "<b>\t", 0}, {markupConfig, wide + "<b>\t", 1}, {markupConfig, wide + "&b;\t", 0},
	} {
		if got := impl.CountBlocks(x.c, x.text); got != x.want {
			t.Errorf("CountBlocks(%s, %.20q) = %d, want %d", configText(x.c), x.text, got, x.want)
		}
	}
}

func TestBlocksOfInvalidConfigs(t *testing.T) {
	for _, c := range invalidConfigsWithFlags() {
		for _, list := range [][]impl.Line{nil, {}, {{}}, {lineOfWidths(10, 0)}, {lineOfWidths(10, 1, 2), lineOfWidths(0, 3)}, {lineOfWidths(10, -1)}} {
			if blocks, widths := impl.BlocksOf(c, list), impl.WidthsOf(c, list); len(blocks) != 0 || len(widths) != 0 {
				t.Errorf("with %+v, %+v has the blocks %+v and the widths %v", c, list, blocks, widths)
			}
		}
		for _, s := range []string{"", "a", "a\tb\n\t", "\t\f\t"} {
			if got := impl.CountBlocks(c, s); got != 0 {
				t.Errorf("CountBlocks(%+v, %q) = %d", c, s, got)
			}
		}
	}
}

func TestLongLists(t *testing.T) {
	const n = 30000
	widest := strings.Repeat("\t", n)
	for _, x := range []struct {
		text          string
		blocks, cells int
	}{
		{widest, n, n},
		{strings.Repeat("\t\n", n), 1, n},
		{strings.Repeat("\t\f", n), n, n},
		{strings.Repeat("\t\n\n", n), n, n},
		{strings.Repeat("\t\n\t\t\n", n), n + 1, 3 * n},
		{widest + "\n" + strings.Repeat("\n", n), n, n},
		{widest + "\n" + strings.Repeat("\t\n", n), n, 2 * n},
		{strings.Repeat("\t\n", n) + widest, n, 2 * n},
		{widest + "\n" + widest + "\f" + widest, 2 * n, 3 * n},
	} {
		list := impl.SplitText(ordinaryConfig, x.text)
		blocks, widths := impl.BlocksOf(ordinaryConfig, list), impl.WidthsOf(ordinaryConfig, list)
		cells := 0
		for i, row := range widths {
			cells += len(row)
			if len(row) != len(list[i].Cells) || slices.ContainsFunc(row, func(width int) bool { return width != 1 }) {
				t.Fatalf("line %d of %.9q.. has the widths %v", i, x.text, row)
			}
		}
		if len(blocks) != x.blocks || impl.CountBlocks(ordinaryConfig, x.text) != x.blocks || cells != x.cells || len(widths) != len(list) {
			t.Errorf("%.9q.. has %d blocks, %d by CountBlocks, and %d widths, want %d and %d", x.text, len(blocks), impl.CountBlocks(ordinaryConfig, x.text), cells, x.blocks, x.cells)
		}
		if !slices.IsSortedFunc(blocks, compareBlocks) {
			t.Errorf("the blocks of %.9q.. are not in order", x.text)
		}
	}
}

// compareBlocks compares blocks by From and then by Column.
func compareBlocks(a, b impl.Block) int {
	if a.From != b.From {
		return a.From - b.From
	}
	return a.Column - b.Column
}

// Many calls with the same arguments return the same: nothing is kept, and no order of a map is visible.
func TestBlocksAreTheSameAgain(t *testing.T) {
	var list []impl.Line
	for i := range 40 {
		list = append(list, lineOfWidths(10, make([]int, i*i%23)...))
	}
	blocks, widths := fmt.Sprint(blocksOf(ordinaryConfig, list)), fmt.Sprint(widthsOf(ordinaryConfig, list))
	for range 100 {
		if got := fmt.Sprint(impl.BlocksOf(ordinaryConfig, list)); got != blocks {
			t.Fatalf("BlocksOf = %s, want %s", got, blocks)
		}
		if got := fmt.Sprint(impl.WidthsOf(ordinaryConfig, list)); got != widths {
			t.Fatalf("WidthsOf = %s, want %s", got, widths)
		}
	}
}

// Chapter 1: results share no memory with each other or with what later calls return, and arguments do not change.
func TestBlockResultsAreNew(t *testing.T) {
	cells := []impl.Cell{{Text: "a", Width: 1}, {Text: "b", Width: 2}, {Text: "c", Width: 3}}
	backing := []impl.Line{{Cells: cells[:2], End: 10}, {Cells: cells[:1], End: 10}, {Cells: cells[1:2]}, {Cells: cells, End: 12}}
	list := backing[:3]
	wantBlocks, wantWidths := []impl.Block{block(0, 0, 3, 3), block(1, 0, 1, 3)}, [][]int{{3, 3}, {3}, {3}}
	for i := range list {
		widths := impl.WidthsOf(ordinaryConfig, list)
		_ = append(widths[i], 70, 71, 72)
		if !sameWidths(widths, wantWidths) {
			t.Errorf("the widths are %v after those of line %d were appended to", widths, i)
		}
		widths[i][0] = 73
		widths[i] = wantWidths[i]
		if !sameWidths(widths, wantWidths) || !sameWidths(impl.WidthsOf(ordinaryConfig, list), wantWidths) {
			t.Errorf("the widths are %v after one of line %d was changed", widths, i)
		}
	}
	blocks := impl.BlocksOf(ordinaryConfig, list)
	blocks[0].Width = 74
	again := impl.BlocksOf(ordinaryConfig, list)
	if !slices.Equal(again, wantBlocks) {
		t.Errorf("BlocksOf = %+v after an earlier result was changed, want %+v", again, wantBlocks)
	}
	found, _ := impl.BlockAt(again[:1], 0, 0)
	if found != wantBlocks[0] || !slices.Equal(again, wantBlocks) {
		t.Errorf("BlockAt = %+v of %+v", found, again)
	}
	wantLines := []impl.Line{{Cells: cells[:2], End: 10}, {Cells: cells[:1], End: 10}, {Cells: cells[1:2]}, {Cells: cells, End: 12}}
	if !slices.Equal(cells, []impl.Cell{{Text: "a", Width: 1}, {Text: "b", Width: 2}, {Text: "c", Width: 3}}) || !sameLines(backing, wantLines) {
		t.Errorf("the arguments are %+v and %+v afterwards", cells, backing)
	}
}
