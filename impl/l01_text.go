package impl

import (
	"iter"
	"strconv"
)

const (
	greatestDec = 999999999
	longestName = 12
)

// DecText returns the decimal representation of n.
func DecText(n int) string { return strconv.Itoa(n) }

// ReadDec returns the number in 0..greatestDec whose DecText is s, or -1.
func ReadDec(s string) int {
	n, err := strconv.Atoi(s)
	if err != nil || n < 0 || n > greatestDec {
		return -1
	}
	// Atoi also accepts a sign and leading zeros, which DecText never writes.
	if DecText(n) != s {
		return -1
	}
	return n
}

// Lines returns the parts of s between its newlines, none if s is empty.
func Lines(s string) []string {
	// splitBy yields one empty part for the empty string, which has no lines.
	if s == "" {
		return nil
	}
	var lines []string
	for part := range splitBy(s, isNewline) {
		lines = append(lines, part)
	}
	return lines
}

// Words returns the maximal non-empty substrings of s without spaces and tabs.
func Words(s string) []string {
	var words []string
	for part := range splitBy(s, isBlank) {
		if part != "" {
			words = append(words, part)
		}
	}
	return words
}

// Before reports whether a precedes b in byte order.
func Before(a string, b string) bool { return a < b }

// NameOk reports whether s consists of 1..longestName lower-case letters and digits.
func NameOk(s string) bool {
	return len(s) >= 1 && len(s) <= longestName && nameBytes(s) == len(s)
}

// nameBytes counts the bytes at the beginning of s that a name may contain.
func nameBytes(s string) int {
	n := 0
scan:
	for n < len(s) {
		switch c := s[n]; {
		case 'a' <= c && c <= 'z', '0' <= c && c <= '9':
			n++
		default:
			break scan
		}
	}
	return n
}

// splitBy yields the parts of s between the bytes that separates accepts, one
// more than there are such bytes.
func splitBy(s string, separates func(byte) bool) iter.Seq[string] {
	return func(yield func(string) bool) {
		start := 0
		for i := range len(s) {
			if !separates(s[i]) {
				continue
			}
			if !yield(s[start:i]) {
				return
			}
			start = i + 1
		}
		yield(s[start:])
	}
}

func isNewline(c byte) bool { return c == '\n' }

func isBlank(c byte) bool { return c == ' ' || c == '\t' }
