package impl

import (
	"iter"
	"strconv"
	"strings"
)

const MaxString = 4000
const MaxDecimal = 999999

// FormatInt returns the decimal representation of n and true. If n is outside
// -MaxDecimal..MaxDecimal it returns the empty string and false. The representation has no
// leading zeros; a negative number starts with `-`.
func FormatInt(n int) (string, bool) {
	if n < -MaxDecimal || n > MaxDecimal {
		return "", false
	}
	return strconv.Itoa(n), true
}

// ParseInt is the inverse of FormatInt: it returns the integer n for which FormatInt(n) is s,
// and true. For any other string, including strings with leading zeros, a leading `+`, or `-0`,
// it returns 0 and false.
func ParseInt(s string) (int, bool) {
	n, ok := numberOf(s)
	if !ok || n < -MaxDecimal || n > MaxDecimal {
		return 0, false
	}
	return n, true
}

// numberOf is ParseInt without its bounds, for the numbers in the texts of all chapters.
func numberOf(s string) (int, bool) {
	n, err := strconv.Atoi(s)
	// Atoi also takes leading zeros and signs: only what is written anew counts.
	if err != nil || strconv.Itoa(n) != s {
		return 0, false
	}
	return n, true
}

// SplitString splits s, which must have at most MaxString bytes, at every occurrence of the
// single-byte separator sep, and returns the substrings between the separators in order, and
// true. The result has one element more than s has separators, so the empty string yields one
// empty element. If s is too long or sep does not consist of exactly one byte, it returns an
// empty slice and false.
func SplitString(s string, sep string) ([]string, bool) {
	if len(s) > MaxString || len(sep) != 1 {
		return []string{}, false
	}
	parts := []string{}
	for part := range partsOf(s, sep[0]) {
		parts = append(parts, part)
	}
	return parts, true
}

// partsOf yields the substrings of s between the bytes sep, in order. It goes by bytes: a
// separator may be a byte that is no character, or one in the midst of a character.
func partsOf(s string, sep byte) iter.Seq[string] {
	return func(yield func(string) bool) {
		rest := s
	nextPart:
		for {
			for i := range len(rest) {
				if rest[i] != sep {
					continue
				}
				if !yield(rest[:i]) {
					return
				}
				rest = rest[i+1:]
				continue nextPart
			}
			yield(rest)
			return
		}
	}
}

// JoinStrings is the inverse of SplitString: it returns the elements of parts concatenated with
// sep between consecutive elements, and true. It returns the empty string and false if parts is
// empty, if sep does not consist of exactly one byte, if an element contains sep, or if the
// result would have more than MaxString bytes.
func JoinStrings(parts []string, sep string) (string, bool) {
	if len(parts) == 0 || len(sep) != 1 {
		return "", false
	}
	// Each part takes a byte more than it has, for its separator; the last one has none, hence the 1.
	free := MaxString + 1
	for _, part := range parts {
		if len(part) >= free || strings.Contains(part, sep) {
			return "", false
		}
		free -= len(part) + 1
	}
	return strings.Join(parts, sep), true
}

// LessString reports whether a is lexicographically less than b, comparing byte by byte; a
// proper prefix is less than the longer string.
func LessString(a string, b string) bool { return a < b }

// Checksum returns the checksum of s and true. The checksum starts at 7 and is updated for
// every byte c of s, in order, to (41*h + c + 1) modulo 999979. If s has more than MaxString
// bytes, it returns 0 and false.
func Checksum(s string) (int, bool) {
	if len(s) > MaxString {
		return 0, false
	}
	h := 7
	for i := range len(s) {
		h = (41*h + int(s[i]) + 1) % 999979
	}
	return h, true
}

// AppendChecksum returns s followed by `#` and the decimal checksum of s, and true. It returns
// the empty string and false if s contains `#` or if s or the result has more than MaxString
// bytes.
func AppendChecksum(s string) (string, bool) {
	sum, ok := Checksum(s)
	if !ok || strings.Contains(s, "#") {
		return "", false
	}
	digits, ok := FormatInt(sum)
	if !ok || len(s)+1+len(digits) > MaxString {
		return "", false
	}
	return s + "#" + digits, true
}

// VerifyChecksum is the inverse of AppendChecksum: it returns the string t for which
// AppendChecksum(t) is s, and true. If there is no such string, it returns the empty string and
// false.
func VerifyChecksum(s string) (string, bool) {
	text, _, _ := strings.Cut(s, "#")
	// Writing it anew also refuses a sum with leading zeros, a second #, and texts that are too long.
	if sealed, ok := AppendChecksum(text); !ok || sealed != s {
		return "", false
	}
	return text, true
}
