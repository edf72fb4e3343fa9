package tests

import (
	"fmt"
	"math"
	"slices"
	"strings"
	"testing"

	"loop.example/g00819/impl"
)

var (
	plainConfig = impl.Config{Min: 3, Tab: 4, Padding: 2, Pad: 46}
	tabConfig   = impl.Config{Tab: 8, Padding: 1, Pad: 9}
)

// isConfig is the document's condition, field by field.
func isConfig(c impl.Config) bool {
	pad := c.Pad == 9 && !c.Right || c.Pad >= 32 && c.Pad <= 126
	return c.Min >= 0 && c.Min <= 200 && c.Tab >= 1 && c.Tab <= 32 && c.Padding >= 0 && c.Padding <= 32 && pad
}

// configText is the document's text of a valid configuration.
func configText(c impl.Config) string {
	flags := ""
	for i, set := range []bool{c.Right, c.Drop, c.Lines, c.Escapes, c.Markup} {
		if set {
			flags += string("rdlem"[i])
		}
	}
	if flags == "" {
		flags = "-"
	}
	return fmt.Sprintf("%d,%d,%d,%d %s", c.Min, c.Tab, c.Padding, c.Pad, flags)
}

// withFlags sets those flags of a configuration whose bits are set in a number from 0 to 31.
func withFlags(c impl.Config, bits int) impl.Config {
	c.Right, c.Drop, c.Lines, c.Escapes, c.Markup = bits&1 != 0, bits&2 != 0, bits&4 != 0, bits&8 != 0, bits&16 != 0
	return c
}

// configsAround returns configurations with all flags and numbers at, directly within and directly beyond what is allowed.
func configsAround() []impl.Config {
	var all []impl.Config
	for _, least := range []int{math.MinInt, -1, 0, 1, 7, 199, 200, 201, math.MaxInt} {
		for _, tab := range []int{math.MinInt, -1, 0, 1, 2, 8, 31, 32, 33, math.MaxInt} {
			for _, padding := range []int{math.MinInt, -1, 0, 1, 31, 32, 33, math.MaxInt} {
				for _, pad := range []int{math.MinInt, -1, 0, 8, 9, 10, 31, 32, 33, 125, 126, 127, 128, math.MaxInt} {
					for bits := range 32 {
						all = append(all, withFlags(impl.Config{Min: least, Tab: tab, Padding: padding, Pad: pad}, bits))
					}
				}
			}
		}
	}
	return all
}

// invalidConfigs returns configurations that are not valid, most of them by a single field.
func invalidConfigs() []impl.Config {
	list := []impl.Config{{}}
	for _, n := range []int{-1, -2, math.MinInt, math.MaxInt, 1 << 32, 1<<32 + 8, 256 + 8, -256 + 8, 201, 1000} {
		beyond := []impl.Config{plainConfig, plainConfig, plainConfig, plainConfig}
		beyond[0].Min, beyond[1].Tab, beyond[2].Padding, beyond[3].Pad = n, n, n, n
		list = append(list, beyond...)
	}
	for _, n := range []int{0, 33} {
		c := plainConfig
		c.Tab = n
		list = append(list, c)
	}
	padded := plainConfig
	padded.Padding = 33
	list = append(list, padded)
	for _, n := range []int{0, 1, 8, 10, 11, 12, 13, 31, 127, 128, 160, 255, 256 + 9, 256 + 32, 1<<32 + 9, 1<<32 + 32, -247, -224} {
		c := plainConfig
		c.Pad = n
		list = append(list, c)
	}
	right := tabConfig
	right.Right = true
	return append(list, right)
}

// invalidConfigsWithFlags returns these configurations with all flags.
func invalidConfigsWithFlags() []impl.Config {
	var list []impl.Config
	for _, c := range invalidConfigs() {
		for bits := range 32 {
			flagged := withFlags(c, bits)
			// Some are not valid only because Right is set.
			flagged.Right = flagged.Right || c.Right
			list = append(list, flagged)
		}
	}
	return list
}

func TestIsConfig(t *testing.T) {
	for _, x := range []struct {
		c    impl.Config
		want bool
	}{
		{impl.Config{}, false},
		{plainConfig, true},
		{tabConfig, true},
		{impl.Config{Min: 0, Tab: 1, Padding: 0, Pad: 32}, true},
		{impl.Config{Min: 200, Tab: 32, Padding: 32, Pad: 126}, true},
		{impl.Config{Min: 200, Tab: 32, Padding: 32, Pad: 126, Right: true, Drop: true, Lines: true, Escapes: true, Markup: true}, true},
		{impl.Config{Min: 200, Tab: 32, Padding: 32, Pad: 9, Drop: true, Lines: true, Escapes: true, Markup: true}, true},
		// Each number directly beyond what is allowed.
		{impl.Config{Min: -1, Tab: 8, Pad: 32}, false},
		{impl.Config{Min: 201, Tab: 8, Pad: 32}, false},
		{impl.Config{Tab: 0, Pad: 32}, false},
		{impl.Config{Tab: -1, Pad: 32}, false},
		{impl.Config{Tab: 33, Pad: 32}, false},
		{impl.Config{Tab: 8, Padding: -1, Pad: 32}, false},
		{impl.Config{Tab: 8, Padding: 33, Pad: 32}, false},
		// The bytes around those with which cells can be filled up.
		{impl.Config{Tab: 8, Pad: 0}, false},
		{impl.Config{Tab: 8, Pad: 8}, false},
		{impl.Config{Tab: 8, Pad: 9}, true},
		{impl.Config{Tab: 8, Pad: 10}, false},
		{impl.Config{Tab: 8, Pad: 12}, false},
		{impl.Config{Tab: 8, Pad: 31}, false},
		{impl.Config{Tab: 8, Pad: 32}, true},
		{impl.Config{Tab: 8, Pad: 126}, true},
		{impl.Config{Tab: 8, Pad: 127}, false},
		{impl.Config{Tab: 8, Pad: 160}, false},
		{impl.Config{Tab: 8, Pad: 228}, false},
		{impl.Config{Tab: 8, Pad: 255}, false},
		// Right, and each other flag, with and without tabs.
		{impl.Config{Tab: 8, Pad: 9, Right: true}, false},
		{impl.Config{Tab: 8, Pad: 9, Right: true, Drop: true, Lines: true, Escapes: true, Markup: true}, false},
		{impl.Config{Tab: 8, Pad: 9, Drop: true}, true},
		{impl.Config{Tab: 8, Pad: 9, Lines: true}, true},
		{impl.Config{Tab: 8, Pad: 9, Escapes: true}, true},
		{impl.Config{Tab: 8, Pad: 9, Markup: true}, true},
		{impl.Config{Tab: 8, Pad: 32, Right: true}, true},
		{impl.Config{Tab: 8, Pad: 10, Right: true}, false},
	} {
		if got := impl.IsConfig(x.c); got != x.want {
			t.Errorf("IsConfig(%+v) = %v", x.c, got)
		}
	}
}

func TestIsConfigOfInvalidConfigs(t *testing.T) {
	for _, c := range invalidConfigs() {
		if impl.IsConfig(c) || isConfig(c) {
			t.Errorf("IsConfig(%+v) = %v; by the document's condition it is %v", c, impl.IsConfig(c), isConfig(c))
		}
	}
}

// Every number of each field that is allowed, and many that are not, with each flag.
func TestIsConfigByField(t *testing.T) {
	for bits := range 32 {
		for n := -300; n <= 700; n++ {
			for _, c := range []impl.Config{
				{Min: n, Tab: 8, Padding: 1, Pad: 32}, {Min: 5, Tab: n, Padding: 1, Pad: 32}, {Min: 5, Tab: 8, Padding: n, Pad: 32}, {Min: 5, Tab: 8, Padding: 1, Pad: n}, {Min: n, Tab: 8, Padding: 1, Pad: 9},
			} {
				c = withFlags(c, bits)
				if got := impl.IsConfig(c); got != isConfig(c) {
					t.Fatalf("IsConfig(%+v) = %v", c, got)
				}
			}
		}
	}
}

func TestDefaultConfig(t *testing.T) {
	want := impl.Config{Min: 0, Tab: 8, Padding: 1, Pad: 32}
	if got := impl.DefaultConfig(); got != want || !impl.IsConfig(got) {
		t.Errorf("DefaultConfig() = %+v, want %+v", got, want)
	}
	if got := impl.FormatConfig(impl.DefaultConfig()); got != "0,8,1,32 -" {
		t.Errorf("the text of DefaultConfig() is %q", got)
	}
}

func TestConfigTexts(t *testing.T) {
	for _, x := range []struct {
		c    impl.Config
		text string
	}{
		{impl.Config{Tab: 8, Padding: 1, Pad: 32}, "0,8,1,32 -"},
		{impl.Config{Min: 3, Tab: 8, Padding: 2, Pad: 46, Right: true, Lines: true}, "3,8,2,46 rl"},
		{impl.Config{Min: 200, Tab: 32, Padding: 32, Pad: 126}, "200,32,32,126 -"},
		{impl.Config{Min: 0, Tab: 1, Padding: 0, Pad: 9}, "0,1,0,9 -"},
		{impl.Config{Min: 12, Tab: 23, Padding: 30, Pad: 100}, "12,23,30,100 -"},
		// Each flag alone, some together, and all of them.
		{impl.Config{Tab: 8, Pad: 32, Right: true}, "0,8,0,32 r"},
		{impl.Config{Tab: 8, Pad: 32, Drop: true}, "0,8,0,32 d"},
		{impl.Config{Tab: 8, Pad: 32, Lines: true}, "0,8,0,32 l"},
		{impl.Config{Tab: 8, Pad: 32, Escapes: true}, "0,8,0,32 e"},
		{impl.Config{Tab: 8, Pad: 32, Markup: true}, "0,8,0,32 m"},
		{impl.Config{Tab: 8, Pad: 32, Right: true, Markup: true}, "0,8,0,32 rm"},
		{impl.Config{Tab: 8, Pad: 32, Drop: true, Escapes: true}, "0,8,0,32 de"},
		{impl.Config{Tab: 8, Pad: 32, Right: true, Drop: true, Lines: true, Escapes: true, Markup: true}, "0,8,0,32 rdlem"},
		{impl.Config{Tab: 8, Pad: 9, Drop: true, Lines: true, Escapes: true, Markup: true}, "0,8,0,9 dlem"},
	} {
		if got := impl.FormatConfig(x.c); got != x.text {
			t.Errorf("FormatConfig(%+v) = %q, want %q", x.c, got, x.text)
		}
		if got, ok := impl.ParseConfig(x.text); got != x.c || !ok {
			t.Errorf("ParseConfig(%q) = %+v, %v, want %+v, true", x.text, got, ok, x.c)
		}
	}
}

func TestParseConfigAlmostTexts(t *testing.T) {
	for _, s := range []string{
		"", " ", "-", " -", ",", ",,,", ",,, ", ",,, -", "r", "0,8,1,32", "0,8,1,32 ", "0,8,1,32-", "0,8,1,32r",
		// A leading zero, a sign.
		"00,8,1,32 -", "03,8,1,32 -", "0,08,1,32 -", "0,8,01,32 -", "0,8,1,032 -", "0,8,1,09 -", "+0,8,1,32 -", "-0,8,1,32 -", "+3,8,1,32 -", "0,+8,1,32 -", "0,8,+1,32 -", "0,8,-0,32 -", "0,8,1,+32 -",
		// A space too many or too few, and other separators.
		" 0,8,1,32 -", "0,8,1,32 - ", "0,8,1,32  -", "0,8,1,32 r ", "0,8,1,32  r", "0, 8,1,32 -", "0,8, 1,32 -", "0,8,1, 32 -", "0 ,8,1,32 -", "0,8,1,32, -", "0,8,1,32 ,-", "0,8,1,32 r d", "0,8,1,32 r,d", "0,8,1,32 -,",
		"0,8,1,32,-", "0,8,1 32 -", "0,8,1 32,-", "0 8,1,32 -", "0 8 1 32 -", "0,8,1,32\t-", "0,8,1,32\n-", "0;8;1;32 -", "0.8.1.32 -", "0,8,1,32 -\n", "\n0,8,1,32 -", "0,8,1,32 -\x00", "0,8,1,32 -\xff", "\ufeff0,8,1,32 -",
		// A flag twice, in another order, of another kind, or beside the sign for none.
		"0,8,1,32 rr", "0,8,1,32 dd", "0,8,1,32 rdd", "0,8,1,32 rdr", "0,8,1,32 rdlemm", "0,8,1,32 rdlemr", "0,8,1,32 dr", "0,8,1,32 lr", "0,8,1,32 me", "0,8,1,32 medlr", "0,8,1,32 rdelm",
		"0,8,1,32 x", "0,8,1,32 rx", "0,8,1,32 xr", "0,8,1,32 rdxlem", "0,8,1,32 R", "0,8,1,32 D", "0,8,1,32 --", "0,8,1,32 -r", "0,8,1,32 r-", "0,8,1,32 0", "0,8,1,32 31", "0,8,1,32 \u0433", "0,8,1,32 r\u0301",
		// A missing or an additional number.
		"8,1,32 -", "0,8,1 -", "0 -", "0,8,1,32,0 -", "0,0,8,1,32 -", ",0,8,1,32 -", "0,,8,1,32 -", "0,,1,32 -", ",8,1,32 -", "0,8,,32 -", "0,8,1, -", "0,8,1,32 - -", "0,8,1,32 -0,8,1,32 -", "0,8,1,32 0,8,1,32 -",
		// Numbers that are not allowed, and numbers beyond any int.
		"-1,8,1,32 -", "201,8,1,32 -", "0,0,1,32 -", "0,-1,1,32 -", "0,33,1,32 -", "0,8,-1,32 -", "0,8,33,32 -", "0,8,1,8 -", "0,8,1,10 -", "0,8,1,31 -", "0,8,1,127 -", "0,8,1,0 -", "0,8,1,-9 -", "0,8,1,288 -", "0,0,0,0 -",
		"9223372036854775807,8,1,32 -", "9223372036854775808,8,1,32 -", "0,18446744073709551624,1,32 -", "0,8,18446744073709551617,32 -", "0,8,1,18446744073709551648 -", "18446744073709551616,8,1,32 -", "0,8,1,-18446744073709551584 -", "0,8,1,99999999999999999999999999 -", strings.Repeat("9", 400) + ",8,1,32 -", "0,4294967304,1,32 -",
		// Right with tabs.
		"0,8,1,9 r", "0,8,1,9 rd", "0,8,1,9 rdlem", "0,8,1,9 dr",
		// No numbers.
		"a,8,1,32 -", "0,b,1,32 -", "0,8,c,32 -", "0,8,1,d -", "0x0,8,1,32 -", "0,8,1,0x20 -", "0,8,1,3_2 -", "0,8.0,1,32 -", "0,8,1e0,32 -", "0,\uff18,1,32 -", "0,8,1,\u0663\u0662 -", "\xff,8,1,32 -",
		strings.Repeat(",", 100000), strings.Repeat(" ", 100000), "0,8,1,32 " + strings.Repeat("r", 100000),
	} {
		if got, ok := impl.ParseConfig(s); got != (impl.Config{}) || ok {
			t.Errorf("ParseConfig(%.60q) = %+v, %v, want the zero value and false", s, got, ok)
		}
	}
}

func TestFormatConfigOfInvalidConfigs(t *testing.T) {
	for _, c := range invalidConfigs() {
		if got := impl.FormatConfig(c); got != "" {
			t.Errorf("FormatConfig(%+v) = %q, want the empty string", c, got)
		}
		if got, ok := impl.ParseConfig(configText(c)); ok || got != (impl.Config{}) {
			t.Errorf("ParseConfig(%q) = %+v, %v", configText(c), got, ok)
		}
	}
}

// P1: configurations are recovered from their text, and no two have the same.
func TestConfigsAreRecovered(t *testing.T) {
	texts := map[string]impl.Config{}
	valid := 0
	for _, c := range configsAround() {
		if impl.IsConfig(c) != isConfig(c) {
			t.Fatalf("IsConfig(%+v) = %v", c, impl.IsConfig(c))
		}
		s := impl.FormatConfig(c)
		if !isConfig(c) {
			if s != "" {
				t.Fatalf("FormatConfig(%+v) = %q, want the empty string", c, s)
			}
			if got, ok := impl.ParseConfig(configText(c)); ok || got != (impl.Config{}) {
				t.Fatalf("ParseConfig(%q) = %+v, %v", configText(c), got, ok)
			}
			continue
		}
		valid++
		if s != configText(c) {
			t.Fatalf("FormatConfig(%+v) = %q, want %q", c, s, configText(c))
		}
		if got, ok := impl.ParseConfig(s); got != c || !ok {
			t.Fatalf("ParseConfig(%q) = %+v, %v, want %+v", s, got, ok, c)
		}
		texts[s] = c
	}
	// 5 numbers for Min, 5 for Tab, 4 for Padding, and 4 for Pad with 32 sets of flags or tabs with 16.
	if want := 5 * 5 * 4 * (4*32 + 16); valid != want || len(texts) != want {
		t.Errorf("%d configurations are valid and have %d texts, want %d", valid, len(texts), want)
	}
}

// P1: all numbers that a field can have are recovered.
func TestNumbersOfConfigsAreRecovered(t *testing.T) {
	recovered := 0
	for n := -20; n <= 220; n++ {
		for _, c := range []impl.Config{
			{Min: n, Tab: 5, Padding: 6, Pad: 77}, {Min: 4, Tab: n, Padding: 6, Pad: 77}, {Min: 4, Tab: 5, Padding: n, Pad: 77}, {Min: 4, Tab: 5, Padding: 6, Pad: n},
		} {
			got, ok := impl.ParseConfig(configText(c))
			if ok != isConfig(c) || ok && got != c || !ok && got != (impl.Config{}) {
				t.Errorf("ParseConfig(%q) = %+v, %v", configText(c), got, ok)
			}
			if ok {
				recovered++
			}
		}
	}
	if want := 201 + 32 + 33 + 96; recovered != want {
		t.Errorf("%d configurations are recovered, want %d", recovered, want)
	}
}

// P1: of the texts that differ from one of a configuration in one place, only texts of configurations are read.
func TestOnlyTextsOfConfigsAreRead(t *testing.T) {
	const alphabet = "0123789 ,-+rdlemx\t\n\x00\xff"
	for _, c := range []impl.Config{
		{Tab: 8, Padding: 1, Pad: 32}, {Min: 20, Tab: 1, Padding: 32, Pad: 9, Drop: true, Markup: true}, {Min: 200, Tab: 32, Padding: 0, Pad: 126, Right: true, Drop: true, Lines: true, Escapes: true, Markup: true}, {Min: 7, Tab: 17, Padding: 12, Pad: 100, Lines: true},
	} {
		s := configText(c)
		var near []string
		for i := range len(s) + 1 {
			for j := range len(alphabet) {
				near = append(near, s[:i]+alphabet[j:j+1]+s[i:])
				if i < len(s) {
					near = append(near, s[:i]+alphabet[j:j+1]+s[i+1:])
				}
			}
			if i < len(s) {
				near = append(near, s[:i]+s[i+1:], s[:i])
			}
		}
		read := 0
		for _, x := range near {
			got, ok := impl.ParseConfig(x)
			if ok && (!isConfig(got) || configText(got) != x || impl.FormatConfig(got) != x) || !ok && got != (impl.Config{}) {
				t.Fatalf("ParseConfig(%q) = %+v, %v", x, got, ok)
			}
			if ok {
				read++
			}
		}
		if read == 0 || read == len(near) {
			t.Errorf("of the %d texts near %q, %d are read", len(near), s, read)
		}
	}
}

// Of all texts of letters, those that name flags in their order are read, each as its own set.
func TestFlagTexts(t *testing.T) {
	var read []string
	sets := map[impl.Config]bool{}
	for _, flags := range textsOver("rdlem-", 6) {
		if c, ok := impl.ParseConfig("3,4,2,46 " + flags); ok {
			read = append(read, flags)
			sets[c] = true
		}
	}
	var want []string
	for bits := range 32 {
		_, flags, _ := strings.Cut(configText(withFlags(plainConfig, bits)), " ")
		want = append(want, flags)
		if !sets[withFlags(plainConfig, bits)] {
			t.Errorf("the flags %q are not read as their set", flags)
		}
	}
	slices.Sort(read)
	slices.Sort(want)
	if !slices.Equal(read, want) {
		t.Errorf("the flags %q are read, want %q", read, want)
	}
}

func TestRoundWidth(t *testing.T) {
	for _, x := range []struct{ pad, tab, n, want int }{
		{32, 8, 0, 0}, {32, 8, 1, 1}, {32, 8, 5, 5}, {32, 8, 8, 8}, {32, 8, 9, 9}, {46, 4, 13, 13}, {126, 1, 7, 7}, {32, 8, 100000, 100000}, {32, 7, 99999, 99999},
		// At a tab stop, directly before and directly after one.
		{9, 8, 0, 0}, {9, 8, 1, 8}, {9, 8, 7, 8}, {9, 8, 8, 8}, {9, 8, 9, 16}, {9, 8, 15, 16}, {9, 8, 16, 16}, {9, 8, 17, 24},
		{9, 4, 3, 4}, {9, 4, 4, 4}, {9, 4, 5, 8}, {9, 1, 0, 0}, {9, 1, 1, 1}, {9, 1, 77, 77}, {9, 3, 10, 12}, {9, 32, 1, 32}, {9, 32, 32, 32}, {9, 32, 33, 64}, {9, 31, 62, 62}, {9, 31, 63, 93},
		// The greatest number may be followed by a greater tab stop.
		{9, 8, 100000, 100000}, {9, 8, 99999, 100000}, {9, 8, 99992, 99992}, {9, 7, 100000, 100002}, {9, 32, 100000, 100000}, {9, 32, 99969, 100000}, {9, 31, 100000, 100006}, {9, 1, 100000, 100000},
		{32, 8, -1, 0}, {32, 8, -8, 0}, {32, 8, 100001, 0}, {32, 8, math.MinInt, 0}, {32, 8, math.MaxInt, 0}, {32, 8, 1<<32 + 8, 0},
		{9, 8, -1, 0}, {9, 8, -8, 0}, {9, 8, -9, 0}, {9, 8, 100001, 0}, {9, 8, 100008, 0}, {9, 8, math.MinInt, 0}, {9, 8, math.MaxInt, 0}, {9, 8, 1<<32 + 8, 0}, {9, 1, 100001, 0},
		// Configurations that are not valid.
		{9, 0, 5, 0}, {9, -4, 5, 0}, {9, 33, 5, 0}, {32, 0, 5, 0}, {32, 33, 5, 0}, {10, 8, 5, 0}, {31, 8, 5, 0}, {127, 8, 5, 0}, {0, 0, 0, 0},
	} {
		if got := impl.RoundWidth(impl.Config{Tab: x.tab, Pad: x.pad}, x.n); got != x.want {
			t.Errorf("RoundWidth with Pad %d and Tab %d to %d is %d, want %d", x.pad, x.tab, x.n, got, x.want)
		}
	}
}

func TestFilling(t *testing.T) {
	for _, x := range []struct {
		pad, tab, n int
		want        string
	}{
		{32, 8, 0, ""}, {32, 8, 1, " "}, {32, 8, 3, "   "}, {46, 4, 5, "....."}, {48, 1, 4, "0000"}, {126, 8, 2, "~~"}, {33, 8, 2, "!!"},
		{9, 8, 0, ""}, {9, 8, 1, "\t"}, {9, 8, 7, "\t"}, {9, 8, 8, "\t"}, {9, 8, 9, "\t\t"}, {9, 8, 16, "\t\t"}, {9, 8, 17, "\t\t\t"},
		{9, 4, 3, "\t"}, {9, 4, 4, "\t"}, {9, 4, 5, "\t\t"}, {9, 1, 3, "\t\t\t"}, {9, 32, 31, "\t"}, {9, 32, 32, "\t"}, {9, 32, 33, "\t\t"}, {9, 3, 10, "\t\t\t\t"},
		{32, 8, -1, ""}, {32, 8, 100001, ""}, {32, 8, math.MinInt, ""}, {32, 8, math.MaxInt, ""}, {32, 8, 1<<32 + 2, ""},
		{9, 8, -1, ""}, {9, 8, -8, ""}, {9, 8, 100001, ""}, {9, 8, math.MinInt, ""}, {9, 8, math.MaxInt, ""}, {9, 8, 1<<32 + 2, ""},
		{9, 0, 5, ""}, {9, -4, 5, ""}, {9, 33, 5, ""}, {32, 0, 5, ""}, {32, 33, 5, ""}, {10, 8, 5, ""}, {31, 8, 5, ""}, {127, 8, 5, ""}, {228, 8, 5, ""}, {0, 0, 5, ""},
	} {
		if got := impl.Filling(impl.Config{Tab: x.tab, Pad: x.pad}, x.n); got != x.want {
			t.Errorf("Filling with Pad %d and Tab %d for %d is %.60q, want %q", x.pad, x.tab, x.n, got, x.want)
		}
	}
}

func TestLongFilling(t *testing.T) {
	for _, x := range []struct{ pad, tab, n, bytes int }{
		{32, 8, 100000, 100000}, {32, 8, 99999, 99999}, {126, 32, 100000, 100000},
		{9, 1, 100000, 100000}, {9, 8, 100000, 12500}, {9, 8, 99993, 12500}, {9, 8, 99992, 12499}, {9, 7, 100000, 14286}, {9, 32, 100000, 3125},
	} {
		want := strings.Repeat(string(rune(x.pad)), x.bytes)
		if got := impl.Filling(impl.Config{Tab: x.tab, Pad: x.pad}, x.n); got != want {
			t.Errorf("Filling with Pad %d and Tab %d for %d has %d bytes, want %d", x.pad, x.tab, x.n, len(got), x.bytes)
		}
	}
}

// checkWidth holds RoundWidth and Filling for a valid configuration against their definitions.
func checkWidth(t *testing.T, c impl.Config, n int) {
	t.Helper()
	width, bytes := n, n
	if c.Pad == 9 {
		width, bytes = 0, 0
		for width < n {
			width += c.Tab
			bytes++
		}
	}
	if got := impl.RoundWidth(c, n); got != width {
		t.Fatalf("RoundWidth(%+v, %d) = %d, want %d", c, n, got, width)
	}
	if got := impl.Filling(c, n); got != strings.Repeat(string(rune(c.Pad)), bytes) {
		t.Fatalf("Filling(%+v, %d) = %q, want %d bytes", c, n, got, bytes)
	}
}

func TestWidthsByDefinition(t *testing.T) {
	for tab := 1; tab <= 32; tab++ {
		for n := range 200 {
			for _, pad := range []int{9, 32, 120} {
				checkWidth(t, impl.Config{Tab: tab, Pad: pad}, n)
			}
		}
	}
	for pad := 32; pad <= 126; pad++ {
		checkWidth(t, impl.Config{Tab: 8, Pad: pad}, 11)
	}
	// Neither Min nor Padding nor a flag has an influence.
	for bits := range 32 {
		for n := range 40 {
			checkWidth(t, withFlags(impl.Config{Min: 20, Tab: 5, Padding: 3, Pad: 64}, bits), n)
			checkWidth(t, withFlags(impl.Config{Min: 20, Tab: 5, Padding: 3, Pad: 9}, bits&^1), n)
		}
	}
}

func TestWidthsOfInvalidConfigs(t *testing.T) {
	for _, c := range invalidConfigs() {
		for _, n := range []int{0, 1, 8, 100000, -1, 100001} {
			width, filling := impl.RoundWidth(c, n), impl.Filling(c, n)
			if width != 0 || filling != "" {
				t.Errorf("RoundWidth(%+v, %d) = %d and Filling has %d bytes", c, n, width, len(filling))
			}
		}
	}
}
