// Package wide is layer 13: see shared/doc/13-wide.md.
package wide

import (
	"cmp"
	"math/bits"

	"sealring/api"
)

// Num is a number: its words, the lowest one first.
type Num [4]uint64

// word is a word that is reckoned with, in one step, and what is carried on to the next one.
type word uint64

func (w word) add(x, carry uint64) (uint64, uint64) { return bits.Add64(uint64(w), x, carry) }
func (w word) sub(x, carry uint64) (uint64, uint64) { return bits.Sub64(uint64(w), x, carry) }

// join reckons with two numbers, word by word, and tells what is carried in the end.
func join(a, b Num, step func(w word, x, carry uint64) (uint64, uint64)) (n Num, carry uint64) {
	for i := range 4 {
		n[i], carry = step(word(a[i]), b[i], carry)
	}
	return n, carry
}

// Small: P13.1.
func Small(n uint64) Num { return Num{n} }

// Of: P13.1.
func Of(s string) (Num, api.Errno) {
	if len(s) != 32 {
		return Num{}, api.ErrArg
	}
	var n Num
	for i := range 32 {
		n[i/8] |= uint64(s[i]) << (8 * (i % 8))
	}
	return n, api.OK
}

// Bytes: P13.1.
func (n Num) Bytes() string {
	var b [32]byte
	for i := range 32 {
		b[i] = byte(n[i/8] >> (8 * (i % 8)))
	}
	return string(b[:])
}

// Bit: P13.1.
func (n Num) Bit(i int) uint {
	if i < 0 || i > 255 {
		return 0
	}
	return uint(n[i/64] >> (i % 64) & 1)
}

// Len: P13.1.
func (n Num) Len() int {
	for i := 3; i >= 0; i-- {
		if n[i] != 0 {
			return 64*i + bits.Len64(n[i])
		}
	}
	return 0
}

// IsZero: P13.1.
func (n Num) IsZero() bool { return n == Num{} }

// Cmp: P13.2.
func Cmp(a, b Num) int {
	for i := 3; i >= 0; i-- {
		if a[i] != b[i] {
			return cmp.Compare(a[i], b[i])
		}
	}
	return 0
}

// Add: P13.2.
func Add(a, b Num) (Num, uint64) { return join(a, b, word.add) }

// Sub: P13.2.
func Sub(a, b Num) (Num, uint64) { return join(a, b, word.sub) }

// Mul: P13.2.
func Mul(a, b Num) (lo, hi Num) {
	var p [8]uint64
	for i := range 4 {
		var carry uint64
		for j := range 4 {
			high, low := bits.Mul64(a[i], b[j])
			sum, over := bits.Add64(low, p[i+j], 0)
			high += over // never wraps: a product of words and two words more fit in two words
			p[i+j], over = bits.Add64(sum, carry, 0)
			carry = high + over
		}
		p[i+4] = carry
	}
	return Num(p[:4]), Num(p[4:])
}

// Rem: P13.2.
func Rem(lo, hi, m Num) Num {
	if m.IsZero() {
		return Num{}
	}
	var rest Num
	// The rest is below m, so twice it and a bit is below twice m: m goes off once at most.
	take := func(bit uint) {
		twice, over := Add(rest, rest)
		twice[0] |= uint64(bit)
		less, below := Sub(twice, m)
		rest = twice
		if over == 1 || below == 0 {
			rest = less
		}
	}
	for _, n := range [2]Num{hi, lo} {
		for i := range 256 {
			take(n.Bit(255 - i))
		}
	}
	return rest
}
