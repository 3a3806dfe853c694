// Package octet is layer 1: see shared/doc/01-octet.md.
package octet

import (
	"strings"

	"sealring/api"
)

const digits = "0123456789abcdef"

// unit is what recast takes and makes.
type unit interface{ byte | uint32 | uint64 }

// recast writes words as bytes and reads bytes as words: which of the two, and in which order, is told by step, which puts what size units of l come to behind out.
func recast[A, B unit](l []A, size int, step func(out []B, piece []A) []B) []B {
	out := make([]B, 0, len(l)/size)
	for ; len(l) >= size; l = l[size:] {
		out = step(out, l[:size])
	}
	return out
}

// Hex: P1.1.
func Hex(s string) string {
	return string(recast([]byte(s), 1, func(out, b []byte) []byte {
		return append(out, digits[b[0]>>4], digits[b[0]&15])
	}))
}

// Unhex: P1.1.
func Unhex(s string) (string, api.Errno) {
	if len(s)%2 != 0 {
		return "", api.ErrForm
	}
	out := make([]byte, 0, len(s)/2)
	for i := 0; i < len(s); i += 2 {
		high, low := strings.IndexByte(digits, s[i]), strings.IndexByte(digits, s[i+1])
		if high < 0 || low < 0 {
			return "", api.ErrForm
		}
		out = append(out, byte(high<<4|low))
	}
	return string(out), api.OK
}

// Put32: P1.2.
func Put32(l ...uint32) string {
	return string(recast(l, 1, func(out []byte, w []uint32) []byte {
		return append(out, byte(w[0]>>24), byte(w[0]>>16), byte(w[0]>>8), byte(w[0]))
	}))
}

// Get32: P1.2.
func Get32(s string) []uint32 {
	return recast([]byte(s), 4, func(out []uint32, b []byte) []uint32 {
		return append(out, uint32(b[0])<<24|uint32(b[1])<<16|uint32(b[2])<<8|uint32(b[3]))
	})
}

// Put64: P1.2.
func Put64(l ...uint64) string {
	return string(recast(l, 1, func(out []byte, w []uint64) []byte {
		for i := range 8 {
			out = append(out, byte(w[0]>>(56-8*i)))
		}
		return out
	}))
}

// Get64: P1.2.
func Get64(s string) []uint64 {
	return recast([]byte(s), 8, func(out []uint64, b []byte) []uint64 {
		var w uint64
		for i := range 8 {
			w |= uint64(b[i]) << (56 - 8*i)
		}
		return append(out, w)
	})
}

// Little: P1.2.
func Little(l ...uint64) string {
	return string(recast(l, 1, func(out []byte, w []uint64) []byte {
		for i := range 8 {
			out = append(out, byte(w[0]>>(8*i)))
		}
		return out
	}))
}

// Low: P1.2.
func Low(s string) []uint64 {
	return recast([]byte(s), 8, func(out []uint64, b []byte) []uint64 {
		var w uint64
		for i := range 8 {
			w |= uint64(b[i]) << (8 * i)
		}
		return append(out, w)
	})
}
