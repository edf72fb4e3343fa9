package tests

import (
	"math"
	"regexp"
	"slices"
	"strings"
	"testing"

	"loop.example/g00819/impl"
)

// The flags of withFlags that have an influence on cells.
const (
	escapesBit = 8
	markupBit  = 16
)

var (
	ordinaryConfig = withFlags(impl.DefaultConfig(), 0)
	escapesConfig  = withFlags(impl.DefaultConfig(), escapesBit)
	markupConfig   = withFlags(impl.DefaultConfig(), markupBit)
	bothConfig     = withFlags(impl.DefaultConfig(), escapesBit|markupBit)
	cellConfigs    = []impl.Config{ordinaryConfig, escapesConfig, markupConfig, bothConfig}
)

var markup = regexp.MustCompile(`<[^>]*>|&[^;]*;`)

// widthOfCell takes the markup out of a text and adds up the widths of the pieces between it.
func widthOfCell(c impl.Config, s string) int {
	if !c.Markup {
		return widthOfText(s)
	}
	width, from := 0, 0
	for _, x := range markup.FindAllStringIndex(s, -1) {
		width += widthOfText(s[from:x[0]])
		if s[x[0]] == '&' {
			width++
		}
		from = x[1]
	}
	return width + widthOfText(s[from:])
}

// isEscaped reports whether the bytes 255 before an index leave escaped text open.
func isEscaped(c impl.Config, t string, i int) bool {
	return c.Escapes && strings.Count(t[:i], "\xff")%2 == 1
}

// isEnd reports whether the byte at an index is one of these bytes, outside of escaped text.
func isEnd(c impl.Config, t string, i int, bytes string) bool {
	return strings.Contains(bytes, t[i:i+1]) && !isEscaped(c, t, i)
}

// cut divides the text from one index up to another at the bytes that are ends, and leaves the marks of escaped text out.
func cut(c impl.Config, t string, from int, to int, ends string) (parts []string, at []int) {
	part := ""
	for i := from; i < to; i++ {
		switch {
		case isEnd(c, t, i, ends):
			parts, at, part = append(parts, part), append(at, i), ""
		case !c.Escapes || t[i] != 255:
			part += t[i : i+1]
		}
	}
	return append(parts, part), append(at, to)
}

// linesOf finds the lines first and the cells of each line afterwards.
func linesOf(c impl.Config, t string) []impl.Line {
	var list []impl.Line
	from := 0
	_, ends := cut(c, t, 0, len(t), "\n\f")
	for _, to := range ends {
		var l impl.Line
		if to < len(t) {
			l.End = int(t[to])
		}
		texts, _ := cut(c, t, from, to, "\t")
		for _, s := range texts {
			l.Cells = append(l.Cells, impl.Cell{Text: s, Width: widthOfCell(c, s)})
		}
		last := len(l.Cells) - 1
		l.Tail, l.Cells = l.Cells[last], l.Cells[:last]
		list = append(list, l)
		from = to + 1
	}
	return list
}

// closedLength tries all beginnings, from the longest one on.
func closedLength(c impl.Config, t string) int {
	for n := len(t); n > 0; n-- {
		if !isEnd(c, t, n-1, "\n\f") {
			continue
		}
		lines := linesOf(c, t[:n])
		if len(lines[len(lines)-2].Cells) == 0 || t[n-1] == 12 {
			return n
		}
	}
	return 0
}

func withoutEscapes(c impl.Config, t string) string {
	if c.Escapes {
		return strings.ReplaceAll(t, "\xff", "")
	}
	return t
}

func sameLine(a, b impl.Line) bool {
	return slices.Equal(a.Cells, b.Cells) && a.Tail == b.Tail && a.End == b.End
}

func sameLines(a, b []impl.Line) bool {
	return slices.EqualFunc(a, b, sameLine)
}

// line returns a line with cells of the width of their texts; the last text is that of Tail.
func line(end int, texts ...string) impl.Line {
	var cells []impl.Cell
	for _, s := range texts {
		cells = append(cells, impl.Cell{Text: s, Width: widthOfText(s)})
	}
	last := len(cells) - 1
	return impl.Line{Cells: cells[:last:last], Tail: cells[last], End: end}
}

// cellPieces are all bytes with a meaning, characters of all widths, and bytes that are no UTF-8.
var cellPieces = []string{"a", "\t", "\n", "\f", "\xff", "<", ">", "&", ";", "\u0301", "\u4e2d", "\xb8"}

func TestCellWidth(t *testing.T) {
	for _, x := range []struct {
		s              string
		plain, withTag int
	}{
		{"", 0, 0}, {"a", 1, 1}, {"abc", 3, 3}, {" ", 1, 1}, {"a\tb", 2, 2}, {"a\nb\fc", 3, 3}, {"\x00\x1b", 0, 0},
		{"\u00e4", 1, 1}, {"e\u0301", 1, 1}, {"\u4e2d", 2, 2}, {"\u4e2da\u0301", 3, 3}, {"\U0001f600", 2, 2}, {"\xff", 1, 1}, {"\xff\xff", 2, 2}, {"\xe4\xb8", 2, 2}, {"\xc0\x80", 2, 2},
		// Tags.
		{"<>", 2, 0}, {"<b>", 3, 0}, {"<b>a</b>", 8, 1}, {"<b>a&lt;</b>", 12, 2}, {"x<b>y", 5, 2}, {"<a><b>", 6, 0}, {"<a> <b>", 7, 1}, {"<\t>", 2, 0}, {"<\n\f>", 2, 0}, {"<\xff>", 3, 0}, {"<\u4e2d\u0301>", 4, 0}, {"<a>>", 4, 1}, {"<a>>>", 5, 2},
		// Entities.
		{"&;", 2, 1}, {"&lt;", 4, 1}, {"&lt;&gt;", 8, 2}, {"a&amp;b", 7, 3}, {"&\u4e2d\u4e2d;", 6, 1}, {"&\u0301;", 2, 1}, {"&\xff;", 3, 1}, {"& ;", 3, 1}, {"&a;;", 4, 2}, {"&\t;", 2, 1},
		// Beginnings without an end, and ends alone.
		{"<", 1, 1}, {"&", 1, 1}, {">", 1, 1}, {";", 1, 1}, {"a<b", 3, 3}, {"a&b", 3, 3}, {"<<<", 3, 3}, {"&&&", 3, 3}, {"<;", 2, 2}, {"&>", 2, 2}, {"><", 2, 2}, {";&", 2, 2}, {"a>b;c", 5, 5}, {"<b>a<", 5, 2}, {"&lt;&", 5, 2}, {"<b;", 3, 3}, {"&lt>", 4, 4},
		// One kind inside or beside the other.
		{"<a&b>", 5, 0}, {"<a&b>c;", 7, 2}, {"<a&b;c>", 7, 0}, {"&a<b;c>", 7, 3}, {"&<b>;", 5, 1}, {"&<b>", 4, 1}, {"<&b;", 4, 2}, {"<<b>", 4, 0}, {"<<b>>", 5, 1}, {"&&b;", 4, 1}, {"&&b;;", 5, 2}, {"<b>&lt;", 7, 1}, {"&lt;<b>", 7, 1}, {"<&>;", 4, 1}, {"&<;>", 4, 2}, {"<;>", 3, 0}, {"&>;", 3, 1}, {"a<b&c;d", 7, 5}, {"a&b<c>d", 7, 4}, {";<a>", 4, 1}, {">&a;", 4, 2}, {"<&;<>", 5, 0},
		// Markup between the bytes of an encoding does not let them become a character.
		{"\xe4<b>\xb8\xad", 6, 3}, {"\u4e2d<b>\u4e2d", 7, 4},
	} {
		if got := impl.CellWidth(ordinaryConfig, x.s); got != x.plain {
			t.Errorf("CellWidth(%q) = %d, want %d", x.s, got, x.plain)
		}
		if got := impl.CellWidth(markupConfig, x.s); got != x.withTag {
			t.Errorf("CellWidth(%q) with Markup = %d, want %d", x.s, got, x.withTag)
		}
	}
}

func TestCellWidthByDefinition(t *testing.T) {
	texts := append(textsOver("<>&;a", 7), textsOfPieces(cellPieces, 4)...)
	for _, s := range texts {
		for _, c := range cellConfigs {
			if got := impl.CellWidth(c, s); got != widthOfCell(c, s) {
				t.Fatalf("CellWidth(%s, %q) = %d, want %d", configText(c), s, got, widthOfCell(c, s))
			}
		}
	}
}

// Neither a number of the configuration nor a flag but Markup has an influence: a byte 255 is a character of the text of a cell.
func TestCellWidthOfConfigs(t *testing.T) {
	for bits := range 32 {
		for _, c := range []impl.Config{withFlags(plainConfig, bits), withFlags(tabConfig, bits&^1), withFlags(impl.Config{Min: 200, Tab: 32, Padding: 32, Pad: 60}, bits)} {
			for _, s := range []string{"", "a", "<b>a&lt;\u4e2d</b>", "\xff<b>\xff", "a\xff", "<"} {
				if got := impl.CellWidth(c, s); got != widthOfCell(c, s) {
					t.Errorf("CellWidth(%s, %q) = %d, want %d", configText(c), s, got, widthOfCell(c, s))
				}
			}
		}
	}
}

func TestSplitText(t *testing.T) {
	for _, x := range []struct {
		text string
		want []impl.Line
	}{
		{"", []impl.Line{line(0, "")}},
		{"a", []impl.Line{line(0, "a")}},
		{"a\tbc\td\n\fx", []impl.Line{line(10, "a", "bc", "d"), line(12, ""), line(0, "x")}},
		// Only one of the bytes.
		{"\t", []impl.Line{line(0, "", "")}},
		{"\t\t\t", []impl.Line{line(0, "", "", "", "")}},
		{"\n", []impl.Line{line(10, ""), line(0, "")}},
		{"\n\n\n", []impl.Line{line(10, ""), line(10, ""), line(10, ""), line(0, "")}},
		{"\f", []impl.Line{line(12, ""), line(0, "")}},
		{"\f\f", []impl.Line{line(12, ""), line(12, ""), line(0, "")}},
		{"\n\f\n", []impl.Line{line(10, ""), line(12, ""), line(10, ""), line(0, "")}},
		// The last line with and without an ending.
		{"a\tb", []impl.Line{line(0, "a", "b")}},
		{"a\tb\n", []impl.Line{line(10, "a", "b"), line(0, "")}},
		{"a\tb\f", []impl.Line{line(12, "a", "b"), line(0, "")}},
		{"a\nb", []impl.Line{line(10, "a"), line(0, "b")}},
		{"a\nb\n", []impl.Line{line(10, "a"), line(10, "b"), line(0, "")}},
		{"a\nb\t", []impl.Line{line(10, "a"), line(0, "b", "")}},
		{"a\t\n", []impl.Line{line(10, "a", ""), line(0, "")}},
		{"a\t\n\t", []impl.Line{line(10, "a", ""), line(0, "", "")}},
		{"\ta\f\tb\n\t", []impl.Line{line(12, "", "a"), line(10, "", "b"), line(0, "", "")}},
		// Other bytes end nothing.
		{"a\rb\vc\x00d\x85 e\u2028", []impl.Line{line(0, "a\rb\vc\x00d\x85 e\u2028")}},
		{"a\r\nb", []impl.Line{line(10, "a\r"), line(0, "b")}},
		{"|a,b\\t\t", []impl.Line{line(0, "|a,b\\t", "")}},
		// The widths are those of characters.
		{"\u4e2d\te\u0301\t\xff\xfe", []impl.Line{{Cells: []impl.Cell{{Text: "\u4e2d", Width: 2}, {Text: "e\u0301", Width: 1}}, Tail: impl.Cell{Text: "\xff\xfe", Width: 2}}}},
		{"\xe4\t\xb8\n\xad", []impl.Line{line(10, "\xe4", "\xb8"), line(0, "\xad")}},
		// The byte 255, where Escapes is not set.
		{"\xffa\t\xff\n\xff", []impl.Line{line(10, "\xffa", "\xff"), line(0, "\xff")}},
		{"\xff\xff\t\xff", []impl.Line{line(0, "\xff\xff", "\xff")}},
		// Tags and entities, where Markup is not set.
		{"<b>\t&lt;\n<", []impl.Line{line(10, "<b>", "&lt;"), line(0, "<")}},
	} {
		if got := impl.SplitText(ordinaryConfig, x.text); !sameLines(got, x.want) {
			t.Errorf("SplitText(%q) = %+v, want %+v", x.text, got, x.want)
		}
	}
}

func TestSplitTextWithEscapes(t *testing.T) {
	for _, x := range []struct {
		text string
		want []impl.Line
	}{
		{"", []impl.Line{line(0, "")}},
		{"a\tb\nc", []impl.Line{line(10, "a", "b"), line(0, "c")}},
		{"a\xffb\tc\n\xff\td", []impl.Line{line(0, "ab\tc\n", "d")}},
		// What escaped text holds.
		{"\xff\t\xff", []impl.Line{line(0, "\t")}},
		{"\xff\n\xff", []impl.Line{line(0, "\n")}},
		{"\xff\f\xff", []impl.Line{line(0, "\f")}},
		{"\xff<b>&lt;\xff", []impl.Line{line(0, "<b>&lt;")}},
		{"\xff\t\t\n\n\f\f\xff\t\n", []impl.Line{line(10, "\t\t\n\n\f\f", ""), line(0, "")}},
		// At the beginning, in the middle and at the end of a cell, and in the tail.
		{"\xff\t\xffa\tb", []impl.Line{line(0, "\ta", "b")}},
		{"a\xff\t\xffb\tc", []impl.Line{line(0, "a\tb", "c")}},
		{"a\xff\t\xff\tb", []impl.Line{line(0, "a\t", "b")}},
		{"a\t\xff\t\xff\tb", []impl.Line{line(0, "a", "\t", "b")}},
		{"a\tb\xff\t\n\xff", []impl.Line{line(0, "a", "b\t\n")}},
		{"a\t\xff\n\xffb\nc", []impl.Line{line(10, "a", "\nb"), line(0, "c")}},
		{"\xffa\xff\t\xffb\xff\n\xffc\xff\f\xffd\xff", []impl.Line{line(10, "a", "b"), line(12, "c"), line(0, "d")}},
		// Over several lines.
		{"a\xff\nb\tc\fd\n\xffe\tf\ng", []impl.Line{line(10, "a\nb\tc\fd\ne", "f"), line(0, "g")}},
		// Empty, and next to each other.
		{"\xff\xff", []impl.Line{line(0, "")}},
		{"a\xff\xffb\tc", []impl.Line{line(0, "ab", "c")}},
		{"\xff\xff\t\xff\xff\n\xff\xff", []impl.Line{line(10, "", ""), line(0, "")}},
		{"\xff\t\xff\xff\n\xff\t", []impl.Line{line(0, "\t\n", "")}},
		{"\xff\t\xff\t\xff\n\xff\n", []impl.Line{line(10, "\t", "\n"), line(0, "")}},
		{"\xff\xff\xff\t\xff\xff\xff", []impl.Line{line(0, "\t")}},
		{"\xff\xff\xff\xff\t", []impl.Line{line(0, "", "")}},
		// Without an end.
		{"\xff", []impl.Line{line(0, "")}},
		{"a\xff", []impl.Line{line(0, "a")}},
		{"a\xffb\tc\nd\fe", []impl.Line{line(0, "ab\tc\nd\fe")}},
		{"a\tb\n\xff\t\n", []impl.Line{line(10, "a", "b"), line(0, "\t\n")}},
		{"a\t\n\xff", []impl.Line{line(10, "a", ""), line(0, "")}},
		{"\xff\xff\xff\n\t", []impl.Line{line(0, "\n\t")}},
		// Only the byte 255 is a mark, and it is one within an encoding too.
		{"\xfe\t\xfe\u00ff\t\u00ff", []impl.Line{line(0, "\xfe", "\xfe\u00ff", "\u00ff")}},
		{"\xe4\xff\xb8\xad\xff\t", []impl.Line{{Cells: []impl.Cell{{Text: "\u4e2d", Width: 2}}}}},
	} {
		if got := impl.SplitText(escapesConfig, x.text); !sameLines(got, x.want) {
			t.Errorf("SplitText(%q) with Escapes = %+v, want %+v", x.text, got, x.want)
		}
	}
}

func TestSplitTextWithMarkup(t *testing.T) {
	cell := func(s string, width int) impl.Cell { return impl.Cell{Text: s, Width: width} }
	for _, x := range []struct {
		c    impl.Config
		text string
		want []impl.Line
	}{
		{markupConfig, "", []impl.Line{{}}},
		{markupConfig, "<b>a</b>\t&lt;\n<i>", []impl.Line{{Cells: []impl.Cell{cell("<b>a</b>", 1)}, Tail: cell("&lt;", 1), End: 10}, {Tail: cell("<i>", 0)}}},
		// A tab or the end of a line leaves a tag or an entity without an end.
		{markupConfig, "<a\tb>", []impl.Line{{Cells: []impl.Cell{cell("<a", 2)}, Tail: cell("b>", 2)}}},
		{markupConfig, "&l\nt;", []impl.Line{{Tail: cell("&l", 2), End: 10}, {Tail: cell("t;", 2)}}},
		{markupConfig, "<\f>", []impl.Line{{Tail: cell("<", 1), End: 12}, {Tail: cell(">", 1)}}},
		{markupConfig, "<\xff>", []impl.Line{{Tail: cell("<\xff>", 0)}}},
		// The width is that of the text of the cell, whether escaped or not.
		{bothConfig, "\xff<b>\xffa\t\xff&lt;\xff", []impl.Line{{Cells: []impl.Cell{cell("<b>a", 1)}, Tail: cell("&lt;", 1)}}},
		{bothConfig, "<\xff\t\n\xff>\t", []impl.Line{{Cells: []impl.Cell{cell("<\t\n>", 0)}}}},
		{bothConfig, "&l\xff\xfft;\xff<", []impl.Line{{Tail: cell("&lt;<", 2)}}},
		{escapesConfig, "\xff<b>\xff\t&lt;", []impl.Line{{Cells: []impl.Cell{cell("<b>", 3)}, Tail: cell("&lt;", 4)}}},
	} {
		if got := impl.SplitText(x.c, x.text); !sameLines(got, x.want) {
			t.Errorf("SplitText(%s, %q) = %+v, want %+v", configText(x.c), x.text, got, x.want)
		}
	}
}

// P3: a text is recovered from its lines, if escapes are not set; otherwise, only the marks of escaped text are missing.
func TestTextsAreRecoveredFromLines(t *testing.T) {
	for _, s := range append(textsOver("a\t\n\f\xff<", 6), textsOfPieces(cellPieces, 4)...) {
		for _, c := range cellConfigs {
			list := impl.SplitText(c, s)
			if got := impl.JoinLines(c, list); got != withoutEscapes(c, s) {
				t.Fatalf("JoinLines(%s) of the lines of %q = %q", configText(c), s, got)
			}
			if !c.Escapes && impl.CountCells(list) != strings.Count(s, "\t") {
				t.Fatalf("the lines of %q have %d cells", s, impl.CountCells(list))
			}
		}
	}
}

// P3: every byte but the marks of escaped text is recovered, in every configuration.
func TestAllBytesAreRecoveredFromLines(t *testing.T) {
	var text []byte
	for i := range 256 {
		text = append(text, byte(i), byte(255-i), 'a', byte(i))
	}
	for bits := range 32 {
		for _, c := range []impl.Config{withFlags(plainConfig, bits), withFlags(tabConfig, bits&^1)} {
			if got := impl.JoinLines(c, impl.SplitText(c, string(text))); got != withoutEscapes(c, string(text)) {
				t.Errorf("with %s, the lines of %q are joined to %q", configText(c), text, got)
			}
		}
	}
}

func TestSplitTextByDefinition(t *testing.T) {
	for _, s := range append(textsOver("a\t\n\f\xff", 6), textsOfPieces(cellPieces, 4)...) {
		for _, c := range cellConfigs {
			if got := impl.SplitText(c, s); !sameLines(got, linesOf(c, s)) {
				t.Fatalf("SplitText(%s, %q) = %+v, want %+v", configText(c), s, got, linesOf(c, s))
			}
		}
	}
}

// Neither a number of the configuration nor a flag but Escapes and Markup has an influence on lines.
func TestLinesOfConfigs(t *testing.T) {
	for bits := range 32 {
		for _, c := range []impl.Config{withFlags(plainConfig, bits), withFlags(tabConfig, bits&^1), withFlags(impl.Config{Min: 200, Tab: 32, Padding: 32, Pad: 124}, bits)} {
			for _, s := range []string{"", "a\tb\n\tc\f\xff\td\n\xff<b>\n&lt;", "a\xff\n", "|.\n \t"} {
				if got := impl.SplitText(c, s); !sameLines(got, linesOf(c, s)) {
					t.Errorf("SplitText(%s, %q) = %+v, want %+v", configText(c), s, got, linesOf(c, s))
				}
				if got := impl.ClosedLength(c, s); got != closedLength(c, s) {
					t.Errorf("ClosedLength(%s, %q) = %d, want %d", configText(c), s, got, closedLength(c, s))
				}
			}
		}
	}
}

func TestJoinLines(t *testing.T) {
	for _, x := range []struct {
		list []impl.Line
		want string
	}{
		{nil, ""},
		{[]impl.Line{}, ""},
		{[]impl.Line{{}}, ""},
		{[]impl.Line{{End: 10}}, "\n"},
		{[]impl.Line{{End: 12}}, "\f"},
		{[]impl.Line{line(0, "a")}, "a"},
		{[]impl.Line{line(10, "a", "b", "c"), line(12, "d"), line(0, "", "e")}, "a\tb\tc\nd\f\te"},
		{[]impl.Line{line(10, "", "", ""), line(10, "")}, "\t\t\n\n"},
		{[]impl.Line{{Cells: []impl.Cell{{}}}}, "\t"},
		{[]impl.Line{{Cells: []impl.Cell{}, Tail: impl.Cell{Text: "a"}, End: 12}}, "a\f"},
		// Lines without an end before others.
		{[]impl.Line{line(0, "a"), line(0, "b", "c"), line(10, "d"), line(0, "")}, "ab\tcd\n"},
		// Texts that hold bytes with a meaning are taken as they are.
		{[]impl.Line{line(10, "a\tb", "c\nd\f"), line(0, "\xff")}, "a\tb\tc\nd\f\n\xff"},
		{[]impl.Line{line(0, "<b>", "&lt;\xff\t\xff")}, "<b>\t&lt;\xff\t\xff"},
		{[]impl.Line{line(10, "\u4e2d", "e\u0301", "\xe4\xb8")}, "\u4e2d\te\u0301\t\xe4\xb8\n"},
		// Widths have no influence.
		{[]impl.Line{{Cells: []impl.Cell{{Text: "a", Width: -5}, {Text: "b", Width: math.MaxInt}}, Tail: impl.Cell{Text: "c", Width: math.MinInt}, End: 10}}, "a\tb\tc\n"},
	} {
		for bits := range 32 {
			c := withFlags(plainConfig, bits)
			if got := impl.JoinLines(c, x.list); got != x.want {
				t.Errorf("JoinLines(%s, %+v) = %q, want %q", configText(c), x.list, got, x.want)
			}
		}
	}
}

func TestJoinLinesWithOtherEnds(t *testing.T) {
	for _, end := range []int{1, 9, 11, 13, 32, 255, -1, -10, -12, 256, 256 + 10, 256 + 12, -256 + 10, 1<<32 + 10, 1 << 32, math.MaxInt, math.MinInt} {
		for _, list := range [][]impl.Line{
			{line(end, "a", "b")},
			{line(end, "")},
			{line(end, "a"), line(10, "b"), line(0, "c")},
			{line(10, "a"), line(end, "b"), line(0, "c")},
			{line(10, "a"), line(12, "b", "c"), line(end, "d")},
		} {
			if got := impl.JoinLines(ordinaryConfig, list); got != "" {
				t.Errorf("JoinLines(%+v) = %q, want the empty string", list, got)
			}
		}
	}
}

// The lines whose texts hold none of the bytes with a meaning are recovered from their text.
func TestLinesAreRecovered(t *testing.T) {
	texts := []string{"", "a", "\u4e2d \xfe", "<b>"}
	var lines []impl.Line
	for _, a := range texts {
		for _, b := range texts {
			lines = append(lines, line(10, a), line(12, a, b), line(10, b, b, a), line(12, a, a, b, b))
		}
	}
	for _, a := range lines {
		for _, b := range lines {
			last := b
			last.End = 0
			list := []impl.Line{a, b, last}
			if got := impl.SplitText(escapesConfig, impl.JoinLines(escapesConfig, list)); !sameLines(got, list) {
				t.Fatalf("the lines %+v are recovered as %+v", list, got)
			}
		}
	}
}

func TestClosedLength(t *testing.T) {
	for _, x := range []struct {
		text                  string
		ordinary, withEscapes int
	}{
		// None.
		{"", 0, 0}, {"a", 0, 0}, {"a\tb", 0, 0}, {"a\tb\n", 0, 0}, {"\t\n", 0, 0}, {"\t", 0, 0}, {"a\tb\nc\td\n\te\nf", 0, 0},
		// The end of a line without cells.
		{"\n", 1, 1}, {"a\n", 2, 2}, {"\n\n\n", 3, 3}, {"a\nb", 2, 2}, {"a\nb\n", 4, 4}, {"a\nb\tc\n", 2, 2}, {"a\tb\nc\nd", 6, 6}, {"a\tb\n\n", 5, 5}, {"a\tb\nc\n\td\n", 6, 6}, {"\ta\nb\n\tc\nd\n\te", 10, 10}, {"\u4e2d\n", 4, 4}, {"a\r\n\t", 3, 3},
		// A form feed, with and without cells before it.
		{"\f", 1, 1}, {"a\f", 2, 2}, {"a\tb\f", 4, 4}, {"\t\f", 2, 2}, {"a\tb\fc", 4, 4}, {"a\tb\f\t\n", 4, 4}, {"a\tb\nc\td\fe\tf\n", 8, 8}, {"\f\f", 2, 2}, {"\f\n\f", 3, 3}, {"\t\f\t\n\n\t\f\t\n", 7, 7}, {"\f\ta\n", 1, 1}, {"\n\ta\f\tb", 4, 4},
		// The beginning is closed at a line without cells, although the one after it has some.
		{"\n\t\n", 1, 1}, {"a\n\tb\n\tc", 2, 2},
		// The marks count as bytes of the text; what is between them does not end a line or a cell.
		{"\xff\n", 2, 0}, {"\xff\xff\n", 3, 3}, {"\xff\n\xff", 2, 0}, {"\xff\f\xff", 2, 0}, {"\xff\n\xff\n", 4, 4}, {"\xff\t\xff\n", 0, 4}, {"\xff\t\n\xff\n", 5, 5}, {"\t\xff\n\xff\n", 5, 0}, {"\xff\f\xff\t\n", 2, 0}, {"\xff\f\xff\t\f", 5, 5}, {"a\n\xff\n", 4, 2}, {"a\n\xff\f\n\xff\n", 7, 7}, {"a\f\xff\t\f", 5, 2}, {"\xff\xff\xff\n\n", 5, 0}, {"\xff\n\xff\xff\n\xff\f", 7, 7}, {"a\xffb\t\xff\nc\td", 0, 6}, {"a\n\xff", 2, 2}, {"a\n\xff\xff", 2, 2}, {"\xff", 0, 0},
		// Tags do not hide the end of a line.
		{"<\n>", 2, 2}, {"&\f;", 2, 2}, {"<\t>\n", 0, 0},
	} {
		for _, bits := range []int{0, markupBit} {
			if got := impl.ClosedLength(withFlags(plainConfig, bits), x.text); got != x.ordinary {
				t.Errorf("ClosedLength(%q) = %d, want %d", x.text, got, x.ordinary)
			}
			if got := impl.ClosedLength(withFlags(plainConfig, bits|escapesBit), x.text); got != x.withEscapes {
				t.Errorf("ClosedLength(%q) with Escapes = %d, want %d", x.text, got, x.withEscapes)
			}
		}
	}
}

func TestClosedLengthByDefinition(t *testing.T) {
	for _, s := range append(textsOver("a\t\n\f\xff", 6), textsOfPieces(cellPieces, 3)...) {
		for _, c := range cellConfigs {
			if got := impl.ClosedLength(c, s); got != closedLength(c, s) {
				t.Fatalf("ClosedLength(%s, %q) = %d, want %d", configText(c), s, got, closedLength(c, s))
			}
		}
	}
}

// The lines before a closed beginning ends and those after it are the lines of the whole text.
func TestClosedBeginningsDivideTheLines(t *testing.T) {
	for _, s := range textsOver("a\t\n\f\xff", 6) {
		for _, c := range cellConfigs {
			n := impl.ClosedLength(c, s)
			before, after := impl.SplitText(c, s[:n]), impl.SplitText(c, s[n:])
			last := before[len(before)-1]
			if !sameLine(last, impl.Line{}) || !sameLines(append(before[:len(before)-1:len(before)-1], after...), impl.SplitText(c, s)) {
				t.Fatalf("with %s, %q is divided at %d into the lines %+v and %+v", configText(c), s, n, before, after)
			}
		}
	}
}

func TestCountCells(t *testing.T) {
	for _, x := range []struct {
		list []impl.Line
		want int
	}{
		{nil, 0}, {[]impl.Line{}, 0}, {[]impl.Line{{}}, 0}, {[]impl.Line{line(10, "a"), line(12, ""), line(0, "b")}, 0},
		{[]impl.Line{line(0, "a", "b")}, 1}, {[]impl.Line{line(10, "", "", "", "")}, 3}, {[]impl.Line{{Cells: []impl.Cell{{}}}}, 1},
		{[]impl.Line{line(10, "a", "b"), line(10, ""), line(12, "c", "d", "e"), line(0, "f")}, 3},
		{[]impl.Line{line(10, "a"), line(0, "b", "c\td")}, 1},
		{[]impl.Line{line(10, "a", "b"), line(0, "a", "b"), line(7, "a", "b"), line(-1, "a", "b", "c")}, 5},
		{[]impl.Line{{Cells: []impl.Cell{{Text: "a", Width: -1}, {Width: math.MaxInt}}, Tail: impl.Cell{Width: math.MinInt}}}, 2},
	} {
		if got := impl.CountCells(x.list); got != x.want {
			t.Errorf("CountCells(%+v) = %d, want %d", x.list, got, x.want)
		}
	}
	for _, s := range textsOver("a\t\n\f\xff", 5) {
		for _, c := range cellConfigs {
			want := 0
			for i := range len(s) {
				if isEnd(c, s, i, "\t") {
					want++
				}
			}
			if got := impl.CountCells(impl.SplitText(c, s)); got != want {
				t.Fatalf("with %s, the lines of %q have %d cells, want %d", configText(c), s, got, want)
			}
		}
	}
}

func TestCellsOfInvalidConfigs(t *testing.T) {
	for _, c := range invalidConfigsWithFlags() {
		for _, s := range []string{"", "a", "a\tb\n", "\n\f", "<b>&lt;\xff\f"} {
			width, lines, closed := impl.CellWidth(c, s), impl.SplitText(c, s), impl.ClosedLength(c, s)
			if width != 0 || len(lines) != 0 || closed != 0 {
				t.Errorf("with %+v, %q has the width %d, the lines %+v and the closed length %d", c, s, width, lines, closed)
			}
		}
		for _, list := range [][]impl.Line{nil, {}, {line(10, "a", "b"), line(0, "c")}, {line(7, "a")}} {
			if got := impl.JoinLines(c, list); got != "" {
				t.Errorf("JoinLines(%+v, %+v) = %q", c, list, got)
			}
		}
	}
}

func TestLongCells(t *testing.T) {
	const n = 50000
	for _, x := range []struct {
		s                    string
		width, marked, lines int
		cells, closed        int
	}{
		{strings.Repeat("a", n), n, n, 1, 0, 0},
		{strings.Repeat("\u4e2d", n), 2 * n, 2 * n, 1, 0, 0},
		{strings.Repeat("<", n), n, n, 1, 0, 0},
		{strings.Repeat("&", n), n, n, 1, 0, 0},
		{strings.Repeat("<&", n) + ";", 2*n + 1, 2, 1, 0, 0},
		{strings.Repeat("&<", n) + ">", 2*n + 1, 1, 1, 0, 0},
		{strings.Repeat("<b>", n), 3 * n, 0, 1, 0, 0},
		{strings.Repeat("&b;", n), 3 * n, n, 1, 0, 0},
		{strings.Repeat("\t", n), 0, 0, 1, n, 0},
		{strings.Repeat("\n", n), 0, 0, n + 1, 0, n},
		{strings.Repeat("\t\n", n), 0, 0, n + 1, n, 0},
		{strings.Repeat("\t\f", n) + "a\t", 1, 1, n + 1, n + 1, 2 * n},
		{strings.Repeat("\xff", n), n, n, 1, 0, 0},
	} {
		plain, marked := impl.CellWidth(ordinaryConfig, x.s), impl.CellWidth(markupConfig, x.s)
		if plain != x.width || marked != x.marked {
			t.Errorf("CellWidth(%.9q..) = %d and %d with Markup, want %d and %d", x.s, plain, marked, x.width, x.marked)
		}
		for _, c := range []impl.Config{ordinaryConfig, bothConfig} {
			list := impl.SplitText(c, x.s)
			if len(list) != x.lines || impl.CountCells(list) != x.cells || impl.ClosedLength(c, x.s) != x.closed || impl.JoinLines(c, list) != withoutEscapes(c, x.s) {
				t.Errorf("with %s, %.9q.. has %d lines, %d cells and the closed length %d, want %d, %d and %d", configText(c), x.s, len(list), impl.CountCells(list), impl.ClosedLength(c, x.s), x.lines, x.cells, x.closed)
			}
		}
	}
}

// Chapter 1: results share no memory with each other or with what later calls return, and arguments do not change.
func TestCellResultsAreNew(t *testing.T) {
	const s = "a\tb\tc\nd\te\tf\ng\t"
	changed := impl.Cell{Text: "changed", Width: 7}
	for i, want := range linesOf(ordinaryConfig, s) {
		list := impl.SplitText(ordinaryConfig, s)
		_ = append(list[i].Cells, changed, changed, changed)
		if !sameLines(list, linesOf(ordinaryConfig, s)) {
			t.Errorf("the lines are %+v after the cells of line %d were appended to", list, i)
		}
		list[i].Cells[0] = changed
		list[i].Cells = want.Cells
		if !sameLines(list, linesOf(ordinaryConfig, s)) || !sameLines(impl.SplitText(ordinaryConfig, s), list) {
			t.Errorf("the lines are %+v after a cell of line %d was changed", list, i)
		}
	}
	cells := []impl.Cell{{Text: "a", Width: 1}, {Text: "b", Width: 1}, {Text: "c", Width: 1}}
	backing := []impl.Line{{Cells: cells[:1], Tail: impl.Cell{Text: "x"}, End: 10}, {Cells: cells[:2]}, {End: 12}}
	if got := impl.JoinLines(ordinaryConfig, backing[:2]); got != "a\tx\na\tb\t" || impl.CountCells(backing[:2]) != 3 {
		t.Errorf("JoinLines of the first two of %+v = %q", backing, got)
	}
	if !slices.Equal(cells, []impl.Cell{{Text: "a", Width: 1}, {Text: "b", Width: 1}, {Text: "c", Width: 1}}) || !sameLines(backing, []impl.Line{{Cells: cells[:1], Tail: impl.Cell{Text: "x"}, End: 10}, {Cells: cells[:2]}, {End: 12}}) {
		t.Errorf("the arguments are %+v and %+v afterwards", cells, backing)
	}
}
