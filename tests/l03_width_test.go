package tests

import (
	"math"
	"slices"
	"strings"
	"testing"

	"loop.example/g00819/impl"
)

// widthPieces are characters of all widths, bytes that are no UTF-8, and an incomplete encoding.
var widthPieces = []string{"a", " ", "\t", "\x00", "\u0301", "\u200b", "\ufeff", "\u4e2d", "\U0001f600", "\xff", "\xe4\xb8"}

// rangesOfWidth are the ranges of the document that do not have the width 1.
var rangesOfWidth = []struct{ from, to, width int }{
	{0, 31, 0}, {127, 159, 0},
	{768, 879, 0}, {1155, 1161, 0}, {8203, 8207, 0}, {8400, 8447, 0}, {65024, 65039, 0}, {65279, 65279, 0},
	{4352, 4447, 2}, {11904, 42191, 2}, {44032, 55203, 2}, {63744, 64255, 2}, {65280, 65376, 2}, {65504, 65510, 2},
	{127744, 128591, 2}, {129280, 129535, 2}, {131072, 262141, 2},
}

// widthOfCode finds the display width of a code by the document's ranges.
func widthOfCode(r int) int {
	for _, x := range rangesOfWidth {
		if x.from <= r && r <= x.to {
			return x.width
		}
	}
	return 1
}

// widthOfText adds up the widths of the characters as the document defines them.
func widthOfText(s string) int {
	codes, _ := charactersOf(s)
	sum := 0
	for _, r := range codes {
		sum += widthOfCode(r)
	}
	return sum
}

// fittingPart tries all beginnings of whole characters and returns the longest one that is not too wide.
func fittingPart(s string, n int) string {
	best := ""
	part := ""
	_, characters := charactersOf(s)
	for _, c := range characters {
		part += c
		if widthOfText(part) <= n {
			best = part
		}
	}
	return best
}

// textsOfPieces returns all texts of at most n pieces.
func textsOfPieces(pieces []string, n int) []string {
	all := []string{""}
	from := 0
	for range n {
		to := len(all)
		for _, s := range all[from:to] {
			for _, p := range pieces {
				all = append(all, s+p)
			}
		}
		from = to
	}
	return all
}

func TestRuneWidth(t *testing.T) {
	for _, x := range []struct{ r, want int }{
		{9, 0}, {10, 0}, {12, 0}, {27, 0}, {133, 0}, {32, 1}, {65, 1}, {124, 1}, {126, 1}, {160, 1}, {173, 1}, {228, 1},
		{0x301, 0}, {0x487, 0}, {0x200b, 0}, {0x200d, 0}, {0x20dd, 0}, {0xfe0f, 0}, {0xfeff, 0},
		{0x1100, 2}, {0x3042, 2}, {0x4e2d, 2}, {0xac00, 2}, {0xf900, 2}, {0xff21, 2}, {0xffe5, 2}, {0x1f600, 2}, {0x1f900, 2}, {0x20000, 2},
		{0x2500, 1}, {0x200a, 1}, {0xfffd, 1}, {0xff71, 1}, {0x1f000, 1}, {0x1f680, 1}, {0xe000, 1}, {0x10ffff, 1},
	} {
		if got := impl.RuneWidth(x.r); got != x.want {
			t.Errorf("RuneWidth(%d) = %d, want %d", x.r, got, x.want)
		}
	}
}

// The first and the last code of each range, and the codes directly before and after it.
func TestRuneWidthAtTheEndsOfRanges(t *testing.T) {
	for _, x := range []struct{ r, want int }{
		{-1, 1}, {0, 0}, {31, 0}, {32, 1},
		{126, 1}, {127, 0}, {159, 0}, {160, 1},
		{767, 1}, {768, 0}, {879, 0}, {880, 1},
		{1154, 1}, {1155, 0}, {1161, 0}, {1162, 1},
		{4351, 1}, {4352, 2}, {4447, 2}, {4448, 1},
		{8202, 1}, {8203, 0}, {8207, 0}, {8208, 1},
		{8399, 1}, {8400, 0}, {8447, 0}, {8448, 1},
		{11903, 1}, {11904, 2}, {42191, 2}, {42192, 1},
		{44031, 1}, {44032, 2}, {55203, 2}, {55204, 1},
		{63743, 1}, {63744, 2}, {64255, 2}, {64256, 1},
		{65023, 1}, {65024, 0}, {65039, 0}, {65040, 1},
		// The mark 65279 is followed directly by a range of wide codes.
		{65278, 1}, {65279, 0}, {65280, 2}, {65376, 2}, {65377, 1},
		{65503, 1}, {65504, 2}, {65510, 2}, {65511, 1},
		{127743, 1}, {127744, 2}, {128591, 2}, {128592, 1},
		{129279, 1}, {129280, 2}, {129535, 2}, {129536, 1},
		{131071, 1}, {131072, 2}, {262141, 2}, {262142, 1}, {262143, 1}, {262144, 1},
	} {
		if got := impl.RuneWidth(x.r); got != x.want {
			t.Errorf("RuneWidth(%d) = %d, want %d", x.r, got, x.want)
		}
		if got := widthOfCode(x.r); got != x.want {
			t.Errorf("the ranges of this test give %d for %d, want %d", got, x.r, x.want)
		}
	}
}

func TestRuneWidthOfNoCodePoints(t *testing.T) {
	for _, r := range []int{
		impl.BadRune, -2, -9, -769, -20013, math.MinInt, math.MinInt + 1, math.MinInt + 769, math.MinInt + 20013, math.MinInt32, math.MinInt16, math.MinInt8,
		55296, 56320, 57343, 1114112, 1114113, 2097151, math.MaxInt32, math.MaxUint32, math.MaxInt - 1, math.MaxInt,
		// Numbers that equal a mark, a control or a wide code in their last 16 or 32 bits.
		1<<32 + 9, 1<<32 + 769, 1<<32 + 20013, 1 << 32, 769 - 1<<32, 20013 - 1<<32, 1<<24 + 769, 1<<24 + 20013, 17<<16 + 769, 17<<16 + 20013,
	} {
		if got := impl.RuneWidth(r); got != 1 {
			t.Errorf("RuneWidth(%d) = %d, want 1", r, got)
		}
	}
}

// P2: the widths of all code points, and of the numbers around them, are those of the document.
func TestRuneWidthOfAllCodes(t *testing.T) {
	counts := [3]int{}
	for r := -70000; r <= 1114111+70000; r++ {
		got := impl.RuneWidth(r)
		if got != widthOfCode(r) {
			t.Fatalf("RuneWidth(%d) = %d, want %d", r, got, widthOfCode(r))
		}
		counts[got]++
	}
	narrow := 32 + 33 + 112 + 7 + 5 + 48 + 16 + 1
	wide := 96 + 30288 + 11172 + 512 + 97 + 7 + 848 + 256 + 131070
	if want := [3]int{narrow, 1114112 + 140000 - narrow - wide, wide}; counts != want {
		t.Errorf("the widths 0, 1 and 2 occur %d times, want %d", counts, want)
	}
}

func TestTextWidth(t *testing.T) {
	for _, x := range []struct {
		s    string
		want int
	}{
		{"", 0}, {"a", 1}, {"abc", 3}, {"a b", 3}, {"   ", 3},
		{"a\tb", 2}, {"a\nb\n", 2}, {"\x00\x1f\x7f", 0}, {"\u0080\u009f\u00a0", 1},
		{"\u00e4", 1}, {"e\u0301", 1}, {"\u0301", 0}, {"\u0301\u0302\u0303", 0}, {"e\u0301\u0302x", 2}, {"\ufeffa", 1}, {"a\u200bb", 2}, {"\u2603\ufe0f", 1},
		{"\u4e2d", 2}, {"\u4e2d\u6587", 4}, {"a\u4e2db", 4}, {"e\u0301\u4e2d", 3}, {"\u4e2d\u0301", 2}, {"\uac00", 2}, {"\u1112\u1161\u11ab", 4}, {"\uff21\uff61", 3},
		{"\U0001f600", 2}, {"\U0001f468\u200d\U0001f469", 4}, {"\U00020000\U0003fffd\U0003fffe", 5},
		// Each byte that begins no character is one of the width 1.
		{"\xff", 1}, {"\xff\xfe", 2}, {"\x80", 1}, {"a\x80b", 3}, {"\xcc", 1}, {"\xcca", 2}, {"\xe4\xb8", 2}, {"\xe4\xb8\xad", 2}, {"\xf0\x9f\x98", 3}, {"\xed\xa0\x80", 3}, {"\xc0\x80", 2}, {"\xf4\x90\x80\x80", 4}, {"\ufffd", 1},
		{strings.Repeat("a\u0301\u4e2d\xff", 50000), 200000},
	} {
		if got := impl.TextWidth(x.s); got != x.want {
			t.Errorf("TextWidth(%q) = %d, want %d", x.s, got, x.want)
		}
	}
}

// P2: the width of a text is the sum over its characters.
func TestTextWidthIsTheSum(t *testing.T) {
	texts := append(textsOfPieces(widthPieces, 4), textsOver(boundaryBytes, 3)...)
	for _, s := range texts {
		got := impl.TextWidth(s)
		codes, parts := 0, 0
		for _, r := range impl.RunesOf(s) {
			codes += impl.RuneWidth(r)
		}
		for _, c := range impl.CutRunes(s) {
			parts += impl.TextWidth(c)
		}
		if got != codes || got != parts || got != widthOfText(s) {
			t.Fatalf("TextWidth(%q) = %d; the widths of the codes add up to %d, those of the characters to %d, want %d", s, got, codes, parts, widthOfText(s))
		}
	}
}

func TestFitWidth(t *testing.T) {
	for _, x := range []struct {
		s    string
		n    int
		want string
	}{
		{"abc", 2, "ab"}, {"abc", 3, "abc"}, {"abc", 4, "abc"}, {"abc", 1, "a"}, {"abc", 0, ""}, {"abc", math.MaxInt, "abc"},
		{"", 0, ""}, {"", 1, ""}, {"", -1, ""}, {"", math.MaxInt, ""}, {"", math.MinInt, ""},
		// Marks and controls in the middle, at the end and after the end of what fits.
		{"ab\u0301c", 1, "a"}, {"ab\u0301c", 2, "ab\u0301"}, {"ab\u0301\u0302\u0303c", 2, "ab\u0301\u0302\u0303"}, {"ab\u0301c", 3, "ab\u0301c"}, {"a\u0301b", 2, "a\u0301b"}, {"a\u0301\u0302bc", 2, "a\u0301\u0302b"},
		{"ab\u0301", 2, "ab\u0301"}, {"a\t\nb", 1, "a\t\n"}, {"a\x00\x7fb", 1, "a\x00\x7f"}, {"a\u200b\ufeffb", 1, "a\u200b\ufeff"}, {"a\u0301 \u0302", 1, "a\u0301"}, {"\u4e2d\u0301a", 2, "\u4e2d\u0301"},
		// To 0, only what has no width.
		{"\u0301a", 0, "\u0301"}, {"\t\n\u0301a\u0301", 0, "\t\n\u0301"}, {"\u0301\u0302", 0, "\u0301\u0302"}, {"a\u0301", 0, ""}, {"\u4e2d", 0, ""}, {"\xff", 0, ""},
		// To a negative number, not even that.
		{"a", -1, ""}, {"\u0301a", -1, ""}, {"\t", -1, ""}, {"\u4e2d", -1, ""}, {"a", -2, ""}, {"\u4e2d", -2, ""},
		{"a", math.MinInt, ""}, {"\u4e2d", math.MinInt, ""}, {"\u4e2d", math.MinInt + 1, ""}, {"\u0301", math.MinInt, ""}, {"abc", math.MinInt + 2, ""},
		// Half of a wide character does not fit, and nothing after it does.
		{"\u4e2da", 1, ""}, {"\u4e2d", 1, ""}, {"\u4e2d", 2, "\u4e2d"}, {"a\u4e2d", 2, "a"}, {"a\u4e2db", 2, "a"}, {"a\u4e2d\u0301b", 2, "a"}, {"a\u0301\u4e2d", 2, "a\u0301"}, {"a\u4e2d", 3, "a\u4e2d"},
		{"\u4e2d\u6587", 3, "\u4e2d"}, {"\u4e2d\u6587a", 3, "\u4e2d"}, {"\u4e2da\u6587", 3, "\u4e2da"}, {"\U0001f600\U0001f600", 3, "\U0001f600"},
		// Bytes that are no UTF-8 are characters of the width 1.
		{"\xffa", 1, "\xff"}, {"a\xff\xfe", 2, "a\xff"}, {"\xff\u0301a", 1, "\xff\u0301"}, {"\xe4\xb8", 1, "\xe4"}, {"\xe4\xb8a", 2, "\xe4\xb8"}, {"\xed\xa0\x80", 2, "\xed\xa0"}, {"\xcc\u0301\x81", 1, "\xcc\u0301"}, {"\xf0\x9f\x98\xf0", 3, "\xf0\x9f\x98"},
	} {
		if got := impl.FitWidth(x.s, x.n); got != x.want {
			t.Errorf("FitWidth(%q, %d) = %q, want %q", x.s, x.n, got, x.want)
		}
	}
}

// P2: what fits is the longest beginning of whole characters that is not wider than the number.
func TestFitWidthByDefinition(t *testing.T) {
	texts := append(textsOfPieces(widthPieces, 4), textsOver(boundaryBytes, 2)...)
	for _, s := range texts {
		for n := -2; n <= 9; n++ {
			got := impl.FitWidth(s, n)
			if got != fittingPart(s, n) {
				t.Fatalf("FitWidth(%q, %d) = %q, want %q", s, n, got, fittingPart(s, n))
			}
			if !strings.HasPrefix(s, got) || got != "" && impl.TextWidth(got) > n {
				t.Fatalf("FitWidth(%q, %d) = %q, with the width %d", s, n, got, impl.TextWidth(got))
			}
			cut, all := impl.CutRunes(got), impl.CutRunes(s)
			if !slices.Equal(cut, all[:len(cut)]) {
				t.Fatalf("FitWidth(%q, %d) = %q, whose characters are %q", s, n, got, cut)
			}
		}
	}
}

func TestFitWidthOfLongTexts(t *testing.T) {
	s := strings.Repeat("a\u0301\u4e2d\xff", 50000)
	for _, x := range []struct{ n, bytes int }{{200000, 350000}, {199999, 349999}, {199998, 349996}, {199997, 349996}, {199996, 349993}, {100001, 175003}} {
		if got := impl.FitWidth(s, x.n); got != s[:x.bytes] {
			t.Errorf("FitWidth of a long text to %d has %d bytes, want %d", x.n, len(got), x.bytes)
		}
	}
}

func TestPad(t *testing.T) {
	for _, x := range []struct {
		s                 string
		n                 int
		right, left, both string
	}{
		{"a", 3, "a  ", "  a", " a "},
		{"a", 4, "a   ", "   a", " a  "},
		{"a", 2, "a ", " a", "a "},
		{"ab", 7, "ab     ", "     ab", "  ab   "},
		{"ab", 6, "ab    ", "    ab", "  ab  "},
		// To the text's width, and to less.
		{"a", 1, "a", "a", "a"},
		{"a", 0, "a", "a", "a"},
		{"abc", 3, "abc", "abc", "abc"},
		{"abc", 2, "abc", "abc", "abc"},
		{"abc", 0, "abc", "abc", "abc"},
		{"\u4e2d", 2, "\u4e2d", "\u4e2d", "\u4e2d"},
		{"\u4e2d", 1, "\u4e2d", "\u4e2d", "\u4e2d"},
		// To negative numbers.
		{"a", -1, "a", "a", "a"},
		{"abc", -100, "abc", "abc", "abc"},
		{"abc", math.MinInt, "abc", "abc", "abc"},
		{"abc", math.MinInt + 1, "abc", "abc", "abc"},
		{"", math.MinInt, "", "", ""},
		{"", -1, "", "", ""},
		{"\u0301", -1, "\u0301", "\u0301", "\u0301"},
		// The empty string, and texts without a width.
		{"", 0, "", "", ""},
		{"", 1, " ", " ", " "},
		{"", 2, "  ", "  ", "  "},
		{"", 3, "   ", "   ", "   "},
		{"\u0301", 0, "\u0301", "\u0301", "\u0301"},
		{"\u0301", 3, "\u0301   ", "   \u0301", " \u0301  "},
		{"\t", 1, "\t ", " \t", "\t "},
		// The width counts, not the bytes and not the characters.
		{"\u4e2d", 3, "\u4e2d ", " \u4e2d", "\u4e2d "},
		{"\u4e2d", 5, "\u4e2d   ", "   \u4e2d", " \u4e2d  "},
		{"e\u0301\u4e2d", 6, "e\u0301\u4e2d   ", "   e\u0301\u4e2d", " e\u0301\u4e2d  "},
		{"\u00e4", 2, "\u00e4 ", " \u00e4", "\u00e4 "},
		{"\U0001f600", 4, "\U0001f600  ", "  \U0001f600", " \U0001f600 "},
		{"\xff", 3, "\xff  ", "  \xff", " \xff "},
		{"\xe4\xb8", 3, "\xe4\xb8 ", " \xe4\xb8", "\xe4\xb8 "},
		{"\x80\xb8", 4, "\x80\xb8  ", "  \x80\xb8", " \x80\xb8 "},
		// Spaces of the text itself stay.
		{" a ", 5, " a   ", "   a ", "  a  "},
		{" ", 2, "  ", "  ", "  "},
		// To more than 100000.
		{"a", 100001, "a", "a", "a"},
		{"", 100001, "", "", ""},
		{"", 200000, "", "", ""},
		{"a", math.MaxInt, "a", "a", "a"},
		{"\u4e2d\xff", math.MaxInt, "\u4e2d\xff", "\u4e2d\xff", "\u4e2d\xff"},
		{"a", math.MaxInt32, "a", "a", "a"},
		{"a", 1<<32 + 3, "a", "a", "a"},
	} {
		if got := impl.PadRight(x.s, x.n); got != x.right {
			t.Errorf("PadRight(%q, %d) = %q, want %q", x.s, x.n, got, x.right)
		}
		if got := impl.PadLeft(x.s, x.n); got != x.left {
			t.Errorf("PadLeft(%q, %d) = %q, want %q", x.s, x.n, got, x.left)
		}
		if got := impl.PadBoth(x.s, x.n); got != x.both {
			t.Errorf("PadBoth(%q, %d) = %q, want %q", x.s, x.n, got, x.both)
		}
	}
}

// checkPadded holds the three functions against the numbers of spaces that they are to add.
func checkPadded(t *testing.T, s string, n int, missing int) {
	t.Helper()
	half := missing / 2
	if got := impl.PadRight(s, n); got != s+strings.Repeat(" ", missing) {
		t.Fatalf("PadRight(%.40q, %d) has %d bytes; want %d spaces after the text of %d bytes", s, n, len(got), missing, len(s))
	}
	if got := impl.PadLeft(s, n); got != strings.Repeat(" ", missing)+s {
		t.Fatalf("PadLeft(%.40q, %d) has %d bytes; want %d spaces before the text of %d bytes", s, n, len(got), missing, len(s))
	}
	if got := impl.PadBoth(s, n); got != strings.Repeat(" ", half)+s+strings.Repeat(" ", missing-half) {
		t.Fatalf("PadBoth(%.40q, %d) has %d bytes; want %d spaces around the text of %d bytes", s, n, len(got), missing, len(s))
	}
}

// The greatest width that is reached is 100000, from any text that has less.
func TestPadToTheGreatestWidth(t *testing.T) {
	wide := strings.Repeat("\u4e2d", 49999)
	for _, x := range []struct {
		s          string
		n, missing int
	}{
		{"", 100000, 100000}, {"a", 100000, 99999}, {"a", 99999, 99998}, {"\u4e2d\u0301", 100000, 99998}, {"\xff\xfe\xfd", 100000, 99997},
		{wide, 100000, 2}, {wide + "a", 100000, 1}, {wide + "ab", 100000, 0}, {wide + "abc", 100000, 0}, {wide + wide, 100000, 0},
		{wide, 99999, 1}, {wide, 100001, 0}, {wide + "abc", 100001, 0}, {wide + "ab", 100003, 0}, {wide + wide, 300000, 0},
	} {
		checkPadded(t, x.s, x.n, x.missing)
	}
}

// P2: padding reaches the stated width and changes nothing else.
func TestPaddingReachesTheWidth(t *testing.T) {
	texts := append(textsOfPieces(widthPieces, 3), textsOver(boundaryBytes, 2)...)
	for _, s := range texts {
		for n := -2; n <= 11; n++ {
			checkPadded(t, s, n, max(0, n-widthOfText(s)))
			want := max(n, impl.TextWidth(s))
			for _, padded := range []string{impl.PadRight(s, n), impl.PadLeft(s, n), impl.PadBoth(s, n)} {
				if got := impl.TextWidth(padded); got != want {
					t.Fatalf("%q padded to %d is %q, with the width %d", s, n, padded, got)
				}
			}
		}
	}
}
