package tests

import (
	"fmt"
	"math"
	"slices"
	"strings"
	"testing"

	"loop.example/g00819/impl"
)

// boundaryBytes are the first and the last byte of each kind that begins or continues encodings, and some bytes that never do.
const boundaryBytes = "\x00A\x7f\x80\x8f\x90\x9f\xa0\xbf\xc0\xc1\xc2\xdf\xe0\xe1\xec\xed\xee\xef\xf0\xf1\xf3\xf4\xf5\xff"

func isCodePoint(r int) bool {
	return r >= 0 && r <= 1114111 && (r < 55296 || r > 57343)
}

// encodingOf builds the shortest encoding of a code point by arithmetic alone.
func encodingOf(r int) string {
	tail := func(shift int) byte { return byte(0x80 + r>>shift%64) }
	switch {
	case !isCodePoint(r):
		return ""
	case r < 128:
		return string([]byte{byte(r)})
	case r < 2048:
		return string([]byte{byte(0xc0 + r>>6), tail(0)})
	case r < 65536:
		return string([]byte{byte(0xe0 + r>>12), tail(6), tail(0)})
	}
	return string([]byte{byte(0xf0 + r>>18), tail(12), tail(6), tail(0)})
}

// characterAt reads a character as the document defines it: it is the bytes that equal the shortest encoding of the number in them, and otherwise one byte.
func characterAt(s string, i int) (int, int) {
	if i < 0 || i >= len(s) {
		return impl.BadRune, 0
	}
	leads := []int{0, 256, 32, 16, 8}
	for n := 1; n <= 4 && i+n <= len(s); n++ {
		r := int(s[i]) % leads[n]
		for j := i + 1; j < i+n; j++ {
			r = r*64 + int(s[j])%64
		}
		if encodingOf(r) == s[i:i+n] {
			return r, n
		}
	}
	return impl.BadRune, 1
}

// charactersOf returns the codes and the characters of a string, by characterAt.
func charactersOf(s string) (codes []int, texts []string) {
	for at := 0; at < len(s); {
		r, n := characterAt(s, at)
		codes = append(codes, r)
		texts = append(texts, s[at:at+n])
		at += n
	}
	return codes, texts
}

// properBeginnings returns all proper beginnings, except the empty one, of the encodings of code points.
func properBeginnings() map[string]bool {
	all := map[string]bool{}
	// All bytes but the last one are the same for 64 successive code points.
	for r := 0; r <= 1114111; r += 64 {
		e := encodingOf(r)
		for n := 1; n < len(e); n++ {
			all[e[:n]] = true
		}
	}
	return all
}

// edgeCodes are the least and the greatest code point of each length, and those beside the numbers that are none.
func edgeCodes() []int {
	return []int{0, 1, 9, 10, 65, 126, 127, 128, 129, 255, 2046, 2047, 2048, 2049, 55294, 55295, 57344, 57345, 65279, 65533, 65534, 65535, 65536, 65537, 128512, 1114110, 1114111}
}

func TestBadRune(t *testing.T) {
	if impl.BadRune != -1 {
		t.Errorf("BadRune = %d", impl.BadRune)
	}
}

func TestDecodeAt(t *testing.T) {
	for _, x := range []struct {
		s       string
		i, r, n int
	}{
		{"a", 0, 97, 1}, {"abc", 1, 98, 1}, {"abc", 2, 99, 1}, {"\x00", 0, 0, 1}, {"\x7f", 0, 127, 1}, {"a\x00b", 1, 0, 1},
		{"\xc2\x80", 0, 128, 2}, {"\u00e4x", 0, 228, 2}, {"\xdf\xbf", 0, 2047, 2},
		{"\xe0\xa0\x80", 0, 2048, 3}, {"a\u4e2d", 1, 20013, 3}, {"\ufeff", 0, 65279, 3}, {"\xef\xbf\xbf", 0, 65535, 3},
		{"\xf0\x90\x80\x80", 0, 65536, 4}, {"\U0001f600", 0, 128512, 4}, {"\xf4\x8f\xbf\xbf", 0, 1114111, 4},
		{"\xed\x9f\xbf", 0, 55295, 3}, {"\xee\x80\x80", 0, 57344, 3},
		// The code point 65533 itself, and bytes that are often replaced by it.
		{"\xef\xbf\xbd", 0, 65533, 3}, {"\xef\xbf", 0, impl.BadRune, 1}, {"a\xffb", 1, impl.BadRune, 1},
		// Encodings that are not the shortest.
		{"\xc0\x80", 0, impl.BadRune, 1}, {"\xc1\xbf", 0, impl.BadRune, 1}, {"\xe0\x80\x80", 0, impl.BadRune, 1}, {"\xe0\x9f\xbf", 0, impl.BadRune, 1},
		{"\xf0\x80\x80\x80", 0, impl.BadRune, 1}, {"\xf0\x8f\xbf\xbf", 0, impl.BadRune, 1},
		// 55296, 57343, 1114112 and numbers beyond.
		{"\xed\xa0\x80", 0, impl.BadRune, 1}, {"\xed\xbf\xbf", 0, impl.BadRune, 1}, {"\xed\xa0\xbd\xed\xb8\x80", 0, impl.BadRune, 1},
		{"\xf4\x90\x80\x80", 0, impl.BadRune, 1}, {"\xf5\x80\x80\x80", 0, impl.BadRune, 1}, {"\xf7\xbf\xbf\xbf", 0, impl.BadRune, 1},
		{"\xf8\x88\x80\x80\x80", 0, impl.BadRune, 1}, {"\xfc\x84\x80\x80\x80\x80", 0, impl.BadRune, 1}, {"\xfe", 0, impl.BadRune, 1}, {"\xff", 0, impl.BadRune, 1},
		// Bytes that begin no encoding, and encodings that do not end.
		{"\x80", 0, impl.BadRune, 1}, {"\xbf\xbf", 0, impl.BadRune, 1}, {"\xc3", 0, impl.BadRune, 1}, {"\xc3a", 0, impl.BadRune, 1}, {"\xc3\xc3\xa4", 0, impl.BadRune, 1},
		{"\xe4\xb8", 0, impl.BadRune, 1}, {"\xe4\xb8a", 0, impl.BadRune, 1}, {"\xf0\x9f\x98", 0, impl.BadRune, 1}, {"\xf0\x9f\x98a", 0, impl.BadRune, 1},
		// Only the bytes from i on count.
		{"\u00e4", 1, impl.BadRune, 1}, {"\u4e2d", 1, impl.BadRune, 1}, {"\u4e2d", 2, impl.BadRune, 1}, {"\U0001f600a", 3, impl.BadRune, 1}, {"\xe4\u00e4", 1, 228, 2}, {"\xed\xa0\x80a", 3, 97, 1},
		// No such byte.
		{"", 0, impl.BadRune, 0}, {"", -1, impl.BadRune, 0}, {"", 1, impl.BadRune, 0}, {"a", -1, impl.BadRune, 0}, {"a", 1, impl.BadRune, 0}, {"a", 2, impl.BadRune, 0},
		{"\u4e2d", 3, impl.BadRune, 0}, {"abc", math.MinInt, impl.BadRune, 0}, {"abc", math.MaxInt, impl.BadRune, 0},
	} {
		if r, n := impl.DecodeAt(x.s, x.i); r != x.r || n != x.n {
			t.Errorf("DecodeAt(%q, %d) = %d, %d, want %d, %d", x.s, x.i, r, n, x.r, x.n)
		}
	}
}

func TestEncodeRune(t *testing.T) {
	for _, x := range []struct {
		r    int
		want string
	}{
		{0, "\x00"}, {10, "\n"}, {97, "a"}, {127, "\x7f"}, {128, "\xc2\x80"}, {228, "\u00e4"}, {255, "\xc3\xbf"}, {2047, "\xdf\xbf"},
		{2048, "\xe0\xa0\x80"}, {20013, "\u4e2d"}, {55295, "\xed\x9f\xbf"}, {57344, "\xee\x80\x80"}, {65533, "\xef\xbf\xbd"}, {65535, "\xef\xbf\xbf"},
		{65536, "\xf0\x90\x80\x80"}, {128512, "\U0001f600"}, {1114111, "\xf4\x8f\xbf\xbf"},
		{-1, ""}, {-2, ""}, {-97, ""}, {55296, ""}, {56320, ""}, {57343, ""}, {1114112, ""}, {2097151, ""},
		{math.MinInt, ""}, {math.MaxInt, ""}, {math.MinInt32, ""}, {math.MaxInt32, ""}, {math.MaxUint32, ""},
		{1 << 32, ""}, {1<<32 + 97, ""}, {97 - 1<<32, ""}, {math.MinInt + 97, ""}, {1<<16 + 1<<21, ""},
	} {
		if got := impl.EncodeRune(x.r); got != x.want {
			t.Errorf("EncodeRune(%d) = %q, want %q", x.r, got, x.want)
		}
	}
}

// P2: every code point, and no other number, has an encoding, from which it is recovered.
func TestCodePointsAreRecovered(t *testing.T) {
	for r := -3000; r <= 1114111+3000; r++ {
		e := impl.EncodeRune(r)
		if e != encodingOf(r) {
			t.Fatalf("EncodeRune(%d) = %q, want %q", r, e, encodingOf(r))
		}
		if e == "" {
			continue
		}
		if got, n := impl.DecodeAt("\xe4"+e+"\x80", 1); got != r || n != len(e) {
			t.Fatalf("DecodeAt of the encoding %q of %d = %d, %d", e, r, got, n)
		}
	}
}

// P2: a list of code points is recovered from its encodings, one after another.
func TestListsOfCodePointsAreRecovered(t *testing.T) {
	var list []int
	for _, r := range edgeCodes() {
		for _, q := range edgeCodes() {
			list = append(list, r, q)
		}
	}
	s := ""
	for _, r := range list {
		s += impl.EncodeRune(r)
	}
	if !slices.Equal(impl.RunesOf(s), list) {
		t.Errorf("RunesOf does not return the code points of %q", s)
	}
	if !impl.IsText(s) || impl.CompleteLength(s) != len(s) || len(impl.CutRunes(s)) != len(list) {
		t.Errorf("IsText = %v, CompleteLength = %d, %d characters of %q", impl.IsText(s), impl.CompleteLength(s), len(impl.CutRunes(s)), s)
	}
}

func TestRunes(t *testing.T) {
	for _, x := range []struct {
		s     string
		codes []int
		cut   []string
	}{
		{"", nil, nil},
		{"ab", []int{97, 98}, []string{"a", "b"}},
		{"a\u00e4\u4e2d\U0001f600", []int{97, 228, 20013, 128512}, []string{"a", "\u00e4", "\u4e2d", "\U0001f600"}},
		{"\u00e4\xff", []int{228, -1}, []string{"\u00e4", "\xff"}},
		{"\xffa\xfe", []int{-1, 97, -1}, []string{"\xff", "a", "\xfe"}},
		{"\x80\x80", []int{-1, -1}, []string{"\x80", "\x80"}},
		{"\xed\xa0\x80", []int{-1, -1, -1}, []string{"\xed", "\xa0", "\x80"}},
		{"\xf4\x90\x80\x80", []int{-1, -1, -1, -1}, []string{"\xf4", "\x90", "\x80", "\x80"}},
		{"\xc0\x80", []int{-1, -1}, []string{"\xc0", "\x80"}},
		{"\xe4\xb8", []int{-1, -1}, []string{"\xe4", "\xb8"}},
		{"\xe4\xb8\u00e4", []int{-1, -1, 228}, []string{"\xe4", "\xb8", "\u00e4"}},
		{"\xf0\x9f\xe4\xb8\xad", []int{-1, -1, 20013}, []string{"\xf0", "\x9f", "\u4e2d"}},
		{"\u4e2d\x80", []int{20013, -1}, []string{"\u4e2d", "\x80"}},
		{"\ufffd\xff\ufffd", []int{65533, -1, 65533}, []string{"\ufffd", "\xff", "\ufffd"}},
		{"e\u0301", []int{101, 769}, []string{"e", "\u0301"}},
		{"\r\n", []int{13, 10}, []string{"\r", "\n"}},
	} {
		if got := impl.RunesOf(x.s); !slices.Equal(got, x.codes) {
			t.Errorf("RunesOf(%q) = %d, want %d", x.s, got, x.codes)
		}
		if got := impl.CutRunes(x.s); !slices.Equal(got, x.cut) {
			t.Errorf("CutRunes(%q) = %q, want %q", x.s, got, x.cut)
		}
	}
}

func TestIsText(t *testing.T) {
	for _, s := range []string{"", "a", "a b\t\n\x00", "\u00e4\u4e2d\U0001f600", "\ufffd", "\ufeffx", "\uffff", "\U0010ffff", "\ud7ff\ue000"} {
		if !impl.IsText(s) {
			t.Errorf("IsText(%q) = false", s)
		}
	}
	for _, s := range []string{"\xff", "a\xff", "\xffa", "a\x80b", "\xc0\x80", "\xed\xa0\x80", "\xf4\x90\x80\x80", "\xe4\xb8", "\u4e2d\xe4", "\xe4\u4e2d", "\ufffd\xff"} {
		if impl.IsText(s) {
			t.Errorf("IsText(%q) = true", s)
		}
	}
}

func TestCompleteLength(t *testing.T) {
	for _, x := range []struct {
		s    string
		want int
	}{
		{"", 0}, {"a", 1}, {"ab\n", 3}, {"\x7f", 1},
		{"\u00e4", 2}, {"\u4e2d", 3}, {"\U0001f600", 4}, {"\ufffd", 3},
		// An ending of 1, 2 and 3 bytes of encodings.
		{"\xc2", 0}, {"\xdf", 0}, {"a\xc3", 1},
		{"\xe0", 0}, {"\xef", 0}, {"a\xe4", 1}, {"a\xe4\xb8", 1}, {"\xe0\xa0", 0}, {"\xef\xbf", 0},
		{"\xf0", 0}, {"\xf4", 0}, {"a\xf0", 1}, {"a\xf0\x9f", 1}, {"a\xf0\x9f\x98", 1}, {"\xf0\x90\x80", 0}, {"\xf4\x8f\xbf", 0}, {"\xf4\x8f", 0},
		{"\u4e2d\xe4\xb8", 3}, {"\xff\xe4\xb8", 1}, {"\xe4\xe4", 1}, {"\xe4\xb8\xe4", 2}, {"\xf0\x9f\xf0\x9f\x98", 2}, {"\U0001f600\xf0\x9f\x98", 4},
		{"\xed\x9f", 0}, {"\xee\x80", 0}, {"a\xed", 1},
		// Endings that are no beginning of an encoding of a code point.
		{"\x80", 1}, {"\xbf\xbf", 2}, {"a\x80\x80\x80", 4}, {"\xff", 1}, {"\xc0", 1}, {"\xc1", 1}, {"\xf5", 1}, {"\xf8", 1}, {"\xf5\x80\x80", 3},
		{"\xe0\x80", 2}, {"\xe0\x9f", 2}, {"a\xed\xa0", 3}, {"\xed\xbf", 2}, {"\xf0\x80", 2}, {"\xf0\x8f", 2}, {"\xf0\x8f\xbf", 3}, {"\xf4\x90", 2}, {"\xf4\x90\x80", 3},
		{"\xe4a", 2}, {"\xe4\xb8a", 3}, {"\xf0\x9fa", 3}, {"\xf0\x9f\x98a", 4}, {"\xf0a\x98", 3}, {"\u00e4\x80", 3}, {"\u4e2d\x80", 4}, {"\U0001f600\x80", 5}, {"\xe4\xc0", 2}, {"\xf0\x9f\xff", 3},
	} {
		if got := impl.CompleteLength(x.s); got != x.want {
			t.Errorf("CompleteLength(%q) = %d, want %d", x.s, got, x.want)
		}
	}
}

// checkCharacters holds all functions of the chapter that read a string against the definitions.
func checkCharacters(s string, beginnings map[string]bool) error {
	for i := -1; i <= len(s)+1; i++ {
		wantCode, wantLength := characterAt(s, i)
		if r, n := impl.DecodeAt(s, i); r != wantCode || n != wantLength {
			return fmt.Errorf("DecodeAt(%q, %d) = %d, %d, want %d, %d", s, i, r, n, wantCode, wantLength)
		}
	}
	codes, cut := charactersOf(s)
	if got := impl.RunesOf(s); !slices.Equal(got, codes) {
		return fmt.Errorf("RunesOf(%q) = %d, want %d", s, got, codes)
	}
	if got := impl.CutRunes(s); !slices.Equal(got, cut) {
		return fmt.Errorf("CutRunes(%q) = %q, want %q", s, got, cut)
	}
	if got := impl.IsText(s); got != !slices.Contains(codes, impl.BadRune) {
		return fmt.Errorf("IsText(%q) = %v", s, got)
	}
	complete := len(s)
	for n := 1; n <= 3 && n <= len(s); n++ {
		if beginnings[s[len(s)-n:]] {
			complete = len(s) - n
		}
	}
	if got := impl.CompleteLength(s); got != complete {
		return fmt.Errorf("CompleteLength(%q) = %d, want %d", s, got, complete)
	}
	return nil
}

// All texts of up to 2 bytes, and all of up to 4 of the bytes at which an encoding can begin to differ.
func TestCharactersByDefinition(t *testing.T) {
	beginnings := properBeginnings()
	texts := textsOver(boundaryBytes, 4)
	for a := range 256 {
		texts = append(texts, string([]byte{byte(a)}))
		for b := range 256 {
			texts = append(texts, string([]byte{byte(a), byte(b)}))
		}
	}
	for _, s := range texts {
		if err := checkCharacters(s, beginnings); err != nil {
			t.Fatal(err)
		}
	}
}

// Around each edge code point stand the pieces of others, so that characters of all lengths meet errors of all lengths.
func TestCharactersBesidePieces(t *testing.T) {
	beginnings := properBeginnings()
	var pieces []string
	for _, r := range edgeCodes() {
		e := encodingOf(r)
		for n := 1; n <= len(e); n++ {
			pieces = append(pieces, e[:n], e[len(e)-n:])
		}
	}
	for _, before := range pieces {
		for _, r := range edgeCodes() {
			for _, after := range pieces {
				if err := checkCharacters(before+encodingOf(r)+after, beginnings); err != nil {
					t.Fatal(err)
				}
			}
		}
	}
}

// P2: strings are recovered from their characters, each of which is one character by itself.
func TestStringsAreRecoveredFromCharacters(t *testing.T) {
	for _, s := range textsOver(boundaryBytes, 4) {
		cut, codes := impl.CutRunes(s), impl.RunesOf(s)
		if strings.Join(cut, "") != s || len(cut) != len(codes) {
			t.Fatalf("CutRunes(%q) = %q with the codes %d", s, cut, codes)
		}
		for i, c := range cut {
			if codes[i] == impl.BadRune {
				if len(c) != 1 || impl.IsText(c) {
					t.Fatalf("CutRunes(%q) = %q with the codes %d", s, cut, codes)
				}
			} else if impl.EncodeRune(codes[i]) != c {
				t.Fatalf("CutRunes(%q) = %q with the codes %d", s, cut, codes)
			}
		}
	}
}

// P2: what follows cannot change the characters before an incomplete one.
func TestWhatFollowsChangesNoCharacter(t *testing.T) {
	followers := textsOver(boundaryBytes, 1)
	followers = append(followers, "\x80\x80", "\xbf\xbf\xbf", "\xa0\x80\x80", "\u00e4", "\u4e2d", "\U0001f600", "a\x80", "\x90\x80")
	for _, s := range textsOver(boundaryBytes, 3) {
		kept := impl.CutRunes(s[:impl.CompleteLength(s)])
		for _, more := range followers {
			cut := impl.CutRunes(s + more)
			if len(cut) < len(kept) || !slices.Equal(cut[:len(kept)], kept) {
				t.Fatalf("the characters %q of %q become %q if %q follows", kept, s, cut, more)
			}
		}
	}
}

// The bytes after CompleteLength are held back for a reason: some bytes that follow complete them to one character.
func TestIncompleteEndingsCanBeCompleted(t *testing.T) {
	followers := textsOver("\x80\x8f\x90\x9f\xa0\xbf", 3)
	for _, s := range textsOver(boundaryBytes, 3) {
		ending := s[impl.CompleteLength(s):]
		if ending == "" {
			continue
		}
		completed := slices.ContainsFunc(followers, func(more string) bool {
			return more != "" && impl.IsText(ending+more) && len(impl.CutRunes(ending+more)) == 1
		})
		if !completed {
			t.Fatalf("CompleteLength(%q) leaves %q, which nothing completes", s, ending)
		}
	}
}

func TestLongTexts(t *testing.T) {
	s := strings.Repeat("a\u00e4\u4e2d\U0001f600\xff", 20000)
	codes, cut := impl.RunesOf(s), impl.CutRunes(s)
	if len(codes) != 100000 || len(cut) != 100000 || strings.Join(cut, "") != s || impl.IsText(s) || impl.CompleteLength(s+"\xf0\x9f\x98") != len(s) {
		t.Errorf("%d codes and %d characters of a long text", len(codes), len(cut))
	}
	if r, n := impl.DecodeAt(s, len(s)-5); r != 128512 || n != 4 {
		t.Errorf("DecodeAt near the end of a long text = %d, %d", r, n)
	}
}

// Chapter 1: results share no memory with each other or with what later calls return.
func TestRuneResultsAreNew(t *testing.T) {
	s := "a\u00e4\xff"
	codes, cut := impl.RunesOf(s), impl.CutRunes(s)
	codes[0], cut[0] = 0, "changed"
	_, _ = append(codes[:1], 0), append(cut[:1], "changed")
	if got := impl.RunesOf(s); !slices.Equal(got, []int{97, 228, impl.BadRune}) {
		t.Errorf("RunesOf(%q) = %d after a result was changed", s, got)
	}
	if got := impl.CutRunes(s); !slices.Equal(got, []string{"a", "\u00e4", "\xff"}) {
		t.Errorf("CutRunes(%q) = %q after a result was changed", s, got)
	}
}
