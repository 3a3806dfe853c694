// Package utf is layer 3: see shared/doc/03-utf.md.
package utf

import (
	"iter"
	"strings"
	"unicode/utf8"

	"sealring/api"
)

// Put: P3.1.
func Put(l ...rune) (string, api.Errno) {
	var out []byte
	for _, r := range l {
		if !utf8.ValidRune(r) {
			return "", api.ErrRange
		}
		out = utf8.AppendRune(out, r)
	}
	return string(out), api.OK
}

// Next: P3.1.
func Next(s string, at int) (r rune, many int, ok bool) {
	if at < 0 || at >= len(s) {
		return 0, 0, false
	}
	r, many = utf8.DecodeRuneInString(s[at:])
	// The library tells U+FFFD of bytes that are no form, too, but of one byte alone, where its own form has three.
	if r == utf8.RuneError && many < 3 {
		return 0, 0, false
	}
	return r, many, true
}

// All: P3.2.
func All(s string) iter.Seq2[int, rune] {
	return func(yield func(int, rune) bool) {
		for at := 0; ; {
			r, many, ok := Next(s, at)
			if !ok || !yield(at, r) {
				return
			}
			at += many
		}
	}
}

// Valid: P3.2.
func Valid(s string) bool {
	end := 0
	for at, r := range All(s) {
		end = at + utf8.RuneLen(r)
	}
	return end == len(s)
}

// Compare: P3.2.
func Compare(a, b string) int { return strings.Compare(a, b) }
