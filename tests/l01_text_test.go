package tests

import (
	"math"
	"slices"
	"strings"
	"testing"

	"loop.example/g00819/impl"
)

// someInts returns the numbers around zero, around all powers of 2 and 10, and at both ends of int.
func someInts() []int {
	list := []int{math.MinInt, math.MinInt + 1, math.MaxInt - 1, math.MaxInt}
	for n := -1200; n <= 1200; n++ {
		list = append(list, n)
	}
	for _, base := range []int{2, 10} {
		for n := base; n > 0 && n <= math.MaxInt/base; n *= base {
			list = append(list, n-1, n, n+1, -n-1, -n, -n+1)
		}
	}
	return list
}

// textsOver returns all texts of at most n bytes of the alphabet.
func textsOver(alphabet string, n int) []string {
	all := []string{""}
	from := 0
	for range n {
		to := len(all)
		for _, s := range all[from:to] {
			for i := range len(alphabet) {
				all = append(all, s+alphabet[i:i+1])
			}
		}
		from = to
	}
	return all
}

func TestFormatInt(t *testing.T) {
	for _, x := range []struct {
		n    int
		want string
	}{
		{0, "0"}, {1, "1"}, {-1, "-1"}, {9, "9"}, {10, "10"}, {-10, "-10"}, {42, "42"}, {100, "100"}, {-907, "-907"}, {1234567890, "1234567890"},
		{math.MaxInt, "9223372036854775807"}, {math.MaxInt - 1, "9223372036854775806"},
		{math.MinInt, "-9223372036854775808"}, {math.MinInt + 1, "-9223372036854775807"},
	} {
		if got := impl.FormatInt(x.n); got != x.want {
			t.Errorf("FormatInt(%d) = %q, want %q", x.n, got, x.want)
		}
	}
}

func TestParseInt(t *testing.T) {
	for _, x := range []struct {
		s    string
		want int
	}{
		{"0", 0}, {"7", 7}, {"-7", -7}, {"10", 10}, {"-10", -10}, {"1234567890", 1234567890},
		{"9223372036854775807", math.MaxInt}, {"-9223372036854775808", math.MinInt}, {"-9223372036854775807", math.MinInt + 1},
	} {
		if got, ok := impl.ParseInt(x.s); got != x.want || !ok {
			t.Errorf("ParseInt(%q) = %d, %v, want %d, true", x.s, got, ok, x.want)
		}
	}
}

func TestParseIntAlmostNumbers(t *testing.T) {
	for _, s := range []string{
		"", "-", "+", "--1", "-+1", "+-1", "-0", "+0", "+1", "00", "07", "-07", "-00", "1-", "1 ", " 1", "- 1", "1\n", "\t1", "1.0", "1.", ".1", "1e3", "1,000", "1_000", "0x1", "0b1", "0o7", "a", "1a", "a1", "\x00", "1\x00", "\xff", "1\xff", "\u0663", "\uff11", "\u22121", "Inf", "NaN",
		"9223372036854775808", "-9223372036854775809", "9223372036854775817", "18446744073709551615", "18446744073709551616", "18446744073709551617", "-18446744073709551617",
		"09223372036854775807", "-09223372036854775808", "+9223372036854775807", "99999999999999999999", "-99999999999999999999", strings.Repeat("9", 400), strings.Repeat("0", 400) + "1",
	} {
		if got, ok := impl.ParseInt(s); got != 0 || ok {
			t.Errorf("ParseInt(%q) = %d, %v, want 0, false", s, got, ok)
		}
	}
}

// P1: numbers are recovered from their text.
func TestIntsAreRecovered(t *testing.T) {
	for _, n := range someInts() {
		s := impl.FormatInt(n)
		if got, ok := impl.ParseInt(s); got != n || !ok {
			t.Errorf("ParseInt(FormatInt(%d)) = ParseInt(%q) = %d, %v", n, s, got, ok)
		}
	}
}

// P1: no two texts stand for one number, and each number's text is found among the short texts.
func TestOnlyTextsOfIntsAreRead(t *testing.T) {
	numbers := map[int]string{}
	for _, s := range textsOver("0179-+ ", 5) {
		n, ok := impl.ParseInt(s)
		if !ok {
			if n != 0 {
				t.Errorf("ParseInt(%q) = %d, false", s, n)
			}
			continue
		}
		if text := impl.FormatInt(n); text != s {
			t.Errorf("ParseInt(%q) = %d, whose text is %q", s, n, text)
		}
		if other, found := numbers[n]; found {
			t.Errorf("%q and %q are both read as %d", other, s, n)
		}
		numbers[n] = s
	}
	// 0, then 3 first digits and 4 others for 1 to 5 digits without a sign and 1 to 4 digits after one.
	if want := 1 + 3*(1+4+16+64+256) + 3*(1+4+16+64); len(numbers) != want {
		t.Errorf("%d texts are numbers, want %d", len(numbers), want)
	}
}

func TestIsDigits(t *testing.T) {
	for _, s := range []string{"0", "9", "00", "07", "0123456789", strings.Repeat("5", 5000)} {
		if !impl.IsDigits(s) {
			t.Errorf("IsDigits(%q) = false", s)
		}
	}
	for _, s := range []string{"", "-1", "+1", "1.5", " 1", "1 ", "1\n", "a", "1a", "a1", "1a1", "/", ":", "\x00", "\xff", "1\xff", "\xb1", "\u0661", "\uff11", "1\u00b2", "\U0001d7ce"} {
		if impl.IsDigits(s) {
			t.Errorf("IsDigits(%q) = true", s)
		}
	}
}

func TestIsName(t *testing.T) {
	for _, s := range []string{"a", "z", "m", "a0", "z9", "x1", "abcdefgh", "a1234567", "a0z9a0z9", "zzzzzzzz"} {
		if !impl.IsName(s) {
			t.Errorf("IsName(%q) = false", s)
		}
	}
	for _, s := range []string{
		"", "0", "9", "1x", "A", "Z", "aB", "a_", "_a", "a-b", "a b", " a", "a ", "a\n", "a.", "-", "`", "{", "a`", "a{", "a/", "a:",
		"abcdefghi", "a12345678", strings.Repeat("a", 5000), "\x00", "a\x00", "\xff", "a\xff", "\xe1", "\u00e9", "a\u00e9", "\uff41", "a\u0661", "a\uff11",
	} {
		if impl.IsName(s) {
			t.Errorf("IsName(%q) = true", s)
		}
	}
}

// Each byte is alone, at the beginning and at the end, so that no range of bytes is one too wide or too narrow.
func TestDigitsAndNamesByByte(t *testing.T) {
	for b := range 256 {
		s := string([]byte{byte(b)})
		digit := strings.Contains("0123456789", s)
		letter := strings.Contains("abcdefghijklmnopqrstuvwxyz", s)
		if impl.IsDigits(s) != digit || impl.IsDigits(s+"1") != digit || impl.IsDigits("1"+s) != digit {
			t.Errorf("IsDigits is wrong for the byte %d", b)
		}
		if impl.IsName(s) != letter || impl.IsName(s+"a") != letter || impl.IsName("a"+s) != (letter || digit) {
			t.Errorf("IsName is wrong for the byte %d", b)
		}
	}
}

func TestSplitAny(t *testing.T) {
	for _, x := range []struct {
		s, by string
		want  []string
	}{
		{"a,b c", ", ", []string{"a", "b", "c"}},
		{"a,b", ",", []string{"a", "b"}},
		{"abc", ",", []string{"abc"}},
		{"", ",", []string{""}},
		{",", ",", []string{"", ""}},
		{",a", ",", []string{"", "a"}},
		{"a,", ",", []string{"a", ""}},
		{",a,", ",", []string{"", "a", ""}},
		{"a,,b", ",", []string{"a", "", "b"}},
		{"a, ;b", ",; ", []string{"a", "", "", "b"}},
		{",,,", ",", []string{"", "", "", ""}},
		{"a,b", "", []string{"a,b"}},
		{"", "", []string{""}},
		{"aXbX", "XX", []string{"a", "b", ""}},
		{"a\x00b\nc", "\n\x00", []string{"a", "b", "c"}},
		{"a\xffb\xfec", "\xff", []string{"a", "b\xfec"}},
		{"a\xffb\xfec", "\xfe\xff", []string{"a", "b", "c"}},
		{"\xff\xff", "\xff", []string{"", "", ""}},
		{"a\xffb", "\ufffd", []string{"a\xffb"}},
		{"a\ufffdb", "\xff", []string{"a\ufffdb"}},
		{"a\u00e8b", "\u00e9", []string{"a", "\xa8b"}},
		{"a\u00e9b", "\u00e9", []string{"a", "", "b"}},
		{"\u00e9", "\xa9", []string{"\xc3", ""}},
		{"\u4e16,\u754c", ",", []string{"\u4e16", "\u754c"}},
	} {
		if got := impl.SplitAny(x.s, x.by); !slices.Equal(got, x.want) {
			t.Errorf("SplitAny(%q, %q) = %q, want %q", x.s, x.by, got, x.want)
		}
	}
}

// With n separators there are n + 1 elements, none of which contains one, and which are s with the separators between them.
func TestSplitAnyLosesNothing(t *testing.T) {
	for _, s := range textsOver("a,;\n\xff", 5) {
		for _, by := range []string{"", ",", ";,", "\n", "\xff", ",;\n\xff", "a", "b"} {
			parts := impl.SplitAny(s, by)
			separators := 0
			at := 0
			for i, p := range parts {
				for j := range len(p) {
					if strings.IndexByte(by, p[j]) >= 0 {
						t.Errorf("SplitAny(%q, %q) has the element %q", s, by, p)
					}
				}
				if !strings.HasPrefix(s[at:], p) {
					t.Fatalf("SplitAny(%q, %q) = %q", s, by, parts)
				}
				at += len(p)
				if i < len(parts)-1 {
					if at >= len(s) || strings.IndexByte(by, s[at]) < 0 {
						t.Fatalf("SplitAny(%q, %q) = %q", s, by, parts)
					}
					at++
					separators++
				}
			}
			if at != len(s) || len(parts) != separators+1 {
				t.Errorf("SplitAny(%q, %q) = %q", s, by, parts)
			}
		}
	}
}

func TestSplitLines(t *testing.T) {
	for _, x := range []struct {
		s    string
		want []string
	}{
		{"", nil},
		{"a", []string{"a"}},
		{"a\n", []string{"a"}},
		{"a\nb", []string{"a", "b"}},
		{"a\nb\n", []string{"a", "b"}},
		{"a\nb\n ", []string{"a", "b", " "}},
		{"\n", []string{""}},
		{"\n\n", []string{"", ""}},
		{"\na", []string{"", "a"}},
		{"a\n\n", []string{"a", ""}},
		{"a\n\nb", []string{"a", "", "b"}},
		{"\n\na\n\n", []string{"", "", "a", ""}},
		{"a\r\nb\r", []string{"a\r", "b\r"}},
		{"a\fb\vc\x00d\u0085e\u2028f", []string{"a\fb\vc\x00d\u0085e\u2028f"}},
		{"\xff\n\xfe", []string{"\xff", "\xfe"}},
		{"\u010a\n\u4e0a", []string{"\u010a", "\u4e0a"}},
	} {
		if got := impl.SplitLines(x.s); !slices.Equal(got, x.want) {
			t.Errorf("SplitLines(%q) = %q, want %q", x.s, got, x.want)
		}
	}
}

// The lines, each followed by a newline, are s, and the newline after a last line that had none.
func TestSplitLinesLosesNothing(t *testing.T) {
	for _, s := range textsOver("a\n\r\xff", 6) {
		back := ""
		for _, l := range impl.SplitLines(s) {
			if strings.Contains(l, "\n") {
				t.Errorf("SplitLines(%q) has the line %q", s, l)
			}
			back += l + "\n"
		}
		want := s
		if s != "" && !strings.HasSuffix(s, "\n") {
			want += "\n"
		}
		if back != want {
			t.Errorf("SplitLines(%q) gives %q", s, back)
		}
	}
}

func TestJoin(t *testing.T) {
	for _, x := range []struct {
		l    []string
		by   string
		want string
	}{
		{nil, ",", ""},
		{[]string{}, ",", ""},
		{[]string{""}, ",", ""},
		{[]string{"a"}, ",", "a"},
		{[]string{"a", "b"}, ",", "a,b"},
		{[]string{"a", "b", "c"}, "", "abc"},
		{[]string{"a", "b", "c"}, ", ", "a, b, c"},
		{[]string{"", ""}, ",", ","},
		{[]string{"", "a", ""}, "--", "--a--"},
		{[]string{",", ","}, ",", ",,,"},
		{[]string{"\xff", "\u4e16"}, "\xc3", "\xff\xc3\u4e16"},
		{[]string{"\xc3", "\xa9"}, "", "\u00e9"},
	} {
		if got := impl.Join(x.l, x.by); got != x.want {
			t.Errorf("Join(%q, %q) = %q, want %q", x.l, x.by, got, x.want)
		}
	}
}

func TestJoinRevertsSplitAny(t *testing.T) {
	for _, s := range textsOver("a,\n\xff", 6) {
		for _, by := range []string{",", "\n", "\xff", "b"} {
			if got := impl.Join(impl.SplitAny(s, by), by); got != s {
				t.Errorf("Join(SplitAny(%q, %q), %q) = %q", s, by, by, got)
			}
		}
	}
}

func TestPadZeros(t *testing.T) {
	long := strings.Repeat("x", 2001)
	for _, x := range []struct {
		s    string
		n    int
		want string
	}{
		{"7", 3, "007"},
		{"7", 2, "07"},
		{"7", 1, "7"},
		{"7", 0, "7"},
		{"7", -1, "7"},
		{"7", math.MinInt, "7"},
		{"", math.MinInt, ""},
		{"", -1, ""},
		{"", 0, ""},
		{"", 1, "0"},
		{"", 4, "0000"},
		{"123", 2, "123"},
		{"123", 3, "123"},
		{"0", 2, "00"},
		{"-5", 4, "00-5"},
		{"ab c", 6, "00ab c"},
		{"\u00e9", 2, "\u00e9"},
		{"\u00e9", 3, "0\u00e9"},
		{"\xff", 2, "0\xff"},
		{"7", 1999, strings.Repeat("0", 1998) + "7"},
		{"7", 2000, strings.Repeat("0", 1999) + "7"},
		{"7", 2001, "7"},
		{"7", math.MaxInt, "7"},
		{"", 2000, strings.Repeat("0", 2000)},
		{"", 2001, ""},
		{"", math.MaxInt, ""},
		{long[:1999], 2000, "0" + long[:1999]},
		{long[:2000], 2000, long[:2000]},
		{long[:2000], 2001, long[:2000]},
		{long, 2000, long},
		{long, 2002, long},
	} {
		if got := impl.PadZeros(x.s, x.n); got != x.want {
			t.Errorf("PadZeros(%q, %d) = %q, want %q", x.s, x.n, got, x.want)
		}
	}
}

// Chapter 1: neither the arguments nor the spare capacity behind them change, and results share no memory.
func TestTextResultsAreNew(t *testing.T) {
	backing := []string{"a", "b", "c", "d"}
	if got := impl.Join(backing[:2], ","); got != "a,b" || !slices.Equal(backing, []string{"a", "b", "c", "d"}) {
		t.Errorf("Join of the first two of %q = %q", backing, got)
	}
	for label, split := range map[string]func() []string{
		"SplitAny":   func() []string { return impl.SplitAny("a,b,c", ",") },
		"SplitLines": func() []string { return impl.SplitLines("a\nb\nc\n") },
	} {
		first, second := split(), split()
		for i := range first {
			first[i] = "changed"
		}
		_ = append(first, "changed")
		if third := split(); !slices.Equal(second, []string{"a", "b", "c"}) || !slices.Equal(third, second) {
			t.Errorf("%s gives %q and %q after a result was changed", label, second, third)
		}
	}
}
