// Package runes looks at texts rune by rune: see doc/01-runes.md.
package runes

import (
	"strings"

	"packhorse/api"
)

// replacement is what range tells of a byte that is no UTF-8. It may stand in a text of its own right, too.
const replacement = '\uFFFD'

// Valid says whether s is UTF-8 from end to end.
func Valid(s string) bool {
	for i, r := range s {
		if stray(s[i:], r) {
			return false
		}
	}
	return true
}

// stray says whether r, which range told at s's beginning, stands for a byte that is no UTF-8.
// The rune alone does not tell: a replacement that was written out is three good bytes.
func stray(s string, r rune) bool {
	return r == replacement && !strings.HasPrefix(s, string(replacement))
}

// Count answers how many runes s has.
func Count(s string) int {
	n := 0
	for range s {
		n++
	}
	return n
}

// Cut answers the first n runes of s, byte for byte as they stand there.
func Cut(s string, n int) string {
	for i := range s {
		if n <= 0 {
			return strings.Clone(s[:i])
		}
		n--
	}
	return strings.Clone(s)
}

// Key says whether s may be a document's key.
func Key(s string) bool {
	n := 0
	for i, r := range s {
		n++
		if n > api.MaxKey || r < ' ' || r == 0x7F || stray(s[i:], r) {
			return false
		}
	}
	return n > 0
}

// Less says whether a stands ahead of b.
func Less(a, b string) bool {
	x, y := a, b
	for x != "" && y != "" {
		p, n := Decode(x)
		q, m := Decode(y)
		if p != q {
			return p < q
		}
		x, y = x[n:], y[m:]
	}
	if x != "" || y != "" {
		return x == ""
	}
	// The same runes may be other bytes: each stray byte is told as one and the same rune.
	return a < b
}

// Lower answers the small letter of a great one, of any other rune that rune.
func Lower(r rune) rune {
	switch {
	case r >= 'A' && r <= 'Z',
		r >= 0xC0 && r <= 0xDE && r != 0xD7,
		r >= 0x391 && r <= 0x3A9 && r != 0x3A2,
		r >= 0x410 && r <= 0x42F:
		return r + 32
	}
	return r
}

// Fold answers s with each rune in its small form.
func Fold(s string) string {
	var b strings.Builder
	for _, r := range s {
		b.WriteRune(Lower(r))
	}
	return b.String()
}

// Encode answers r's bytes, or those of the replacement where r is no rune.
func Encode(r rune) string { return string(r) }

// Decode answers the first rune of s, and how many bytes it takes.
func Decode(s string) (rune, int) {
	first := replacement
	for i, r := range s {
		if i > 0 {
			return first, i
		}
		first = r
	}
	return first, len(s)
}
