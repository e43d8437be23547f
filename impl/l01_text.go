package impl

import (
	"strconv"
	"strings"
)

const maxNameBytes = 8
const maxPadding = 2000

// FormatInt returns the decimal representation of n.
func FormatInt(n int) string { return strconv.Itoa(n) }

// ParseInt returns the int whose FormatInt is s.
func ParseInt(s string) (int, bool) {
	n, err := strconv.Atoi(s)
	// Atoi also reads texts that FormatInt never writes, such as +1, -0 and 01.
	if err != nil || FormatInt(n) != s {
		return 0, false
	}
	return n, true
}

// IsDigits reports whether s consists of at least one decimal digit.
func IsDigits(s string) bool {
	for _, r := range s {
		if !isDigit(r) {
			return false
		}
	}
	return s != ""
}

// IsName reports whether s is a letter followed by at most 7 letters and digits.
func IsName(s string) bool {
	if s == "" || len(s) > maxNameBytes {
		return false
	}
	for i, r := range s {
		if !isLetter(r) && (i == 0 || !isDigit(r)) {
			return false
		}
	}
	return true
}

func isDigit(r rune) bool { return '0' <= r && r <= '9' }

func isLetter(r rune) bool { return 'a' <= r && r <= 'z' }

// SplitAny splits s at every byte that occurs in by.
func SplitAny(s string, by string) []string {
	// Bytes and not runes, since a byte of by may be a part of a rune of s.
	var cuts [256]bool
	for i := range len(by) {
		cuts[by[i]] = true
	}
	var parts []string
	start := 0
	for i := range len(s) {
		if cuts[s[i]] {
			parts = append(parts, s[start:i])
			start = i + 1
		}
	}
	return append(parts, s[start:])
}

// SplitLines returns the lines of s without their newlines.
func SplitLines(s string) []string {
	lines := SplitAny(s, "\n")
	last := len(lines) - 1
	if lines[last] == "" {
		return lines[:last]
	}
	return lines
}

// Join returns the elements of l separated by by.
func Join(l []string, by string) string { return joinTexts(by, l...) }

// joinTexts takes the texts one by one, so that a line can be written from its fields without a list.
func joinTexts(by string, texts ...string) string { return strings.Join(texts, by) }

// PadZeros returns s with the leading zeros that are needed for n bytes.
func PadZeros(s string, n int) string {
	if n > maxPadding || n <= len(s) {
		return s
	}
	return strings.Repeat("0", n-len(s)) + s
}
