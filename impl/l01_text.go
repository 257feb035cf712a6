package impl

import (
	"slices"
	"strconv"
	"strings"
)

// MaxCode is the largest number of bytes of a code.
const MaxCode = 8

// maxParsed is the largest number of 12 digits.
const maxParsed = 999999999999

// FormatInt returns n in decimal.
func FormatInt(n int) string { return strconv.Itoa(n) }

// ParseInt returns the number of at most 12 digits that FormatInt formats as s.
func ParseInt(s string) (int, bool) {
	n, err := strconv.Atoi(s)
	if err != nil || n < -maxParsed || n > maxParsed {
		return 0, false
	}
	// Atoi also takes leading zeros, a plus sign and -0, which FormatInt never writes.
	if FormatInt(n) != s {
		return 0, false
	}
	return n, true
}

func isCapital(r rune) bool { return r >= 'A' && r <= 'Z' }

func isDigit(r rune) bool { return r >= '0' && r <= '9' }

// IsCode reports whether s is a code.
func IsCode(s string) bool {
	if len(s) < 1 || len(s) > MaxCode {
		return false
	}
	for i, r := range s {
		if isCapital(r) {
			continue
		}
		if i == 0 || !isDigit(r) && r != '-' {
			return false
		}
	}
	return true
}

// SplitWords returns the words of s; it fails if one would be empty.
func SplitWords(s string) ([]string, bool) {
	// Split would make one empty word of the empty string, which has none.
	if s == "" {
		return nil, true
	}
	words := strings.Split(s, " ")
	if slices.Contains(words, "") {
		return nil, false
	}
	return words, true
}

// JoinWords returns the strings with a space between each two.
func JoinWords(l []string) string { return strings.Join(l, " ") }
