// Package mix is layer 15: see shared/doc/15-mix.md.
package mix

import "math/bits"

// Word is what is mixed.
type Word interface{ uint32 | uint64 }

// Right: P15.1.
func Right[T Word](x T, n int) T {
	size := bits.Len64(uint64(^T(0)))
	// The size is a power of 2, so its lower bits are the rest from 0 on, of an n below 0, too.
	low := n & (size - 1)
	return x>>low | x<<(size-low)
}

// Turns: P15.1.
func Turns[T Word](x T, l ...int) T {
	var out T
	for _, n := range l {
		out ^= Right(x, n)
	}
	return out
}

// Choose: P15.2.
func Choose[T Word](x, y, z T) T { return x&y | ^x&z }

// Most: P15.2.
func Most[T Word](x, y, z T) T { return x&y | x&z | y&z }

// Sum: P15.2.
func Sum[T Word](l ...T) T {
	var out T
	for _, x := range l {
		out += x
	}
	return out
}
