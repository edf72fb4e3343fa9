package impl

import (
	"strconv"
	"strings"
)

const (
	maxNameBytes   = 8
	maxPaddedBytes = 2000
)

func FormatInt(n int) string {
	return strconv.Itoa(n)
}

func ParseInt(s string) (int, bool) {
	n, err := strconv.Atoi(s)
	// Atoi also reads texts that FormatInt never writes, such as "+1", "-0" and "07".
	if err != nil || FormatInt(n) != s {
		return 0, false
	}
	return n, true
}

func IsDigits(s string) bool {
	for _, r := range s {
		if !isDigit(r) {
			return false
		}
	}
	return s != ""
}

func IsName(s string) bool {
	for i, r := range s {
		if !isLetter(r) && (i == 0 || !isDigit(r)) {
			return false
		}
	}
	return s != "" && len(s) <= maxNameBytes
}

func isDigit(r rune) bool {
	return '0' <= r && r <= '9'
}

func isLetter(r rune) bool {
	return 'a' <= r && r <= 'z'
}

// SplitAny compares bytes, not characters: a separator may be a part of a
// character, or no UTF-8 at all.
func SplitAny(s string, by string) []string {
	var separates [256]bool
	for i := range len(by) {
		separates[by[i]] = true
	}
	var parts []string
	start := 0
	for i := range len(s) {
		if separates[s[i]] {
			parts = append(parts, s[start:i])
			start = i + 1
		}
	}
	return append(parts, s[start:])
}

func SplitLines(s string) []string {
	lines := SplitAny(s, "\n")
	last := len(lines) - 1
	// An empty last part means that s is empty or ends with a newline: no line begins there.
	if lines[last] == "" {
		return lines[:last]
	}
	return lines
}

func Join(l []string, by string) string {
	return joinTexts(by, l...)
}

// joinTexts is variadic so that single texts can be joined as well as a list.
func joinTexts(by string, texts ...string) string {
	return strings.Join(texts, by)
}

func PadZeros(s string, n int) string {
	if len(s) >= n || n > maxPaddedBytes {
		return s
	}
	return joinTexts("", strings.Repeat("0", n-len(s)), s)
}
