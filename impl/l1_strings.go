package impl

import (
	"iter"
	"strconv"
	"strings"
)

const MaxString = 4000
const MaxDecimal = 999999

// FormatInt returns the decimal representation of n and true. If n is outside
// -MaxDecimal..MaxDecimal it returns the empty string and false. The representation has no
// leading zeros; a negative number starts with `-`.
func FormatInt(n int) (string, bool) {
	if n < -MaxDecimal || n > MaxDecimal {
		return "", false
	}
	return strconv.Itoa(n), true
}

// ParseInt is the inverse of FormatInt: it returns the integer n for which FormatInt(n) is s,
// and true. For any other string, including strings with leading zeros, a leading `+`, or `-0`,
// it returns 0 and false.
func ParseInt(s string) (int, bool) {
	n, err := strconv.Atoi(s)
	if err != nil {
		return 0, false
	}
	// Atoi reads more texts than FormatInt writes: those with leading zeros or a sign too many.
	written, ok := FormatInt(n)
	if !ok || written != s {
		return 0, false
	}
	return n, true
}

// partsOf gives the parts of s between the separators, in order.
func partsOf(s string, separator byte) iter.Seq[string] {
	return func(yield func(string) bool) {
		start := 0
		for place := range len(s) {
			if s[place] != separator {
				continue
			}
			if !yield(s[start:place]) {
				return
			}
			start = place + 1
		}
		yield(s[start:])
	}
}

// SplitString splits s, which must have at most MaxString bytes, at every occurrence of the
// single-byte separator sep, and returns the substrings between the separators in order, and
// true. The result has one element more than s has separators, so the empty string yields one
// empty element. If s is too long or sep does not consist of exactly one byte, it returns an
// empty slice and false.
func SplitString(s string, sep string) ([]string, bool) {
	if len(s) > MaxString || len(sep) != 1 {
		return nil, false
	}
	var parts []string
	for part := range partsOf(s, sep[0]) {
		// A part is a piece of s, and results share no memory with arguments.
		parts = append(parts, strings.Clone(part))
	}
	return parts, true
}

// canJoin reports whether the joined parts have at most MaxString bytes and can be told apart
// again by the separator.
func canJoin(parts []string, separator byte) bool {
	size := len(parts) - 1
	fine := true
search:
	for _, part := range parts {
		size += len(part)
		// The size comes first, so that no text far beyond MaxString is looked through.
		if size > MaxString {
			fine = false
			break search
		}
		for place := range len(part) {
			if part[place] == separator {
				fine = false
				break search
			}
		}
	}
	return fine
}

// JoinStrings is the inverse of SplitString: it returns the elements of parts concatenated with
// sep between consecutive elements, and true. It returns the empty string and false if parts is
// empty, if sep does not consist of exactly one byte, if an element contains sep, or if the
// result would have more than MaxString bytes.
func JoinStrings(parts []string, sep string) (string, bool) {
	if len(parts) == 0 || len(sep) != 1 || !canJoin(parts, sep[0]) {
		return "", false
	}
	// Join gives back a single part itself, and results share no memory with arguments.
	return strings.Clone(strings.Join(parts, sep)), true
}

// LessString reports whether a is lexicographically less than b, comparing byte by byte; a
// proper prefix is less than the longer string.
func LessString(a string, b string) bool { return a < b }

// Checksum returns the checksum of s and true. The checksum starts at 7 and is updated for
// every byte c of s, in order, to (41*h + c + 1) modulo 999979. If s has more than MaxString
// bytes, it returns 0 and false.
func Checksum(s string) (int, bool) {
	if len(s) > MaxString {
		return 0, false
	}
	h := 7
	for place := range len(s) {
		h = (41*h + int(s[place]) + 1) % 999979
	}
	return h, true
}

// AppendChecksum returns s followed by `#` and the decimal checksum of s, and true. It returns
// the empty string and false if s contains `#` or if s or the result has more than MaxString
// bytes.
func AppendChecksum(s string) (string, bool) {
	sum, ok := Checksum(s)
	if !ok || strings.Contains(s, "#") {
		return "", false
	}
	number, ok := FormatInt(sum)
	if !ok || len(s)+1+len(number) > MaxString {
		return "", false
	}
	return s + "#" + number, true
}

// VerifyChecksum is the inverse of AppendChecksum: it returns the string t for which
// AppendChecksum(t) is s, and true. If there is no such string, it returns the empty string and
// false.
func VerifyChecksum(s string) (string, bool) {
	text, _, found := strings.Cut(s, "#")
	if !found {
		return "", false
	}
	sealed, ok := AppendChecksum(text)
	if !ok || sealed != s {
		return "", false
	}
	// The text is a piece of s, and results share no memory with arguments.
	return strings.Clone(text), true
}
