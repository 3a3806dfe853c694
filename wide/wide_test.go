package wide_test

import (
	"math"
	"math/big"
	"math/rand"
	"slices"
	"strings"
	"testing"

	"sealring/api"
	"sealring/wide"
)

const top = math.MaxUint64

func bigOf(n wide.Num) *big.Int {
	out := new(big.Int)
	for i := range 4 {
		word := new(big.Int).SetUint64(n[i])
		out.Add(out, word.Lsh(word, uint(64*i)))
	}
	return out
}

// power is 2^i.
func power(i int) *big.Int { return new(big.Int).Lsh(big.NewInt(1), uint(i)) }

// numOf is the rest by 2^256.
func numOf(b *big.Int) wide.Num {
	rest := new(big.Int).Mod(b, power(256))
	var n wide.Num
	for i := range 4 {
		n[i] = new(big.Int).And(new(big.Int).Rsh(rest, uint(64*i)), new(big.Int).SetUint64(top)).Uint64()
	}
	return n
}

// numbers are such as go over the words' ends, and others.
func numbers() []wide.Num {
	l := []wide.Num{{}, {1}, {2}, {3}, {5}, {top}, {0, 1}, {1, 1}, {top, top}, {0, 0, 1}, {top, top, top}, {0, 0, 0, 1}, {top, top, top, top}, {top - 1, top, top, top}, {0, 0, 0, 1 << 63}, {0, 0, 0, top}, {1, 0, 0, 1 << 63}, {top, 0, top, 0}, {0, top, 0, top},
		{top - 18, top, top, 1<<63 - 1}, {0x5812631a5cf5d3ed, 0x14def9dea2f79cd6, 0, 1 << 60}}
	r := rand.New(rand.NewSource(1))
	for i := range 24 {
		var n wide.Num
		for j := range 1 + i%4 {
			n[j] = r.Uint64() >> (i % 7 * 9)
		}
		l = append(l, n)
	}
	return l
}

func TestP13_1SmallOfAndBytes(t *testing.T) {
	for _, n := range []uint64{0, 1, 258, 1 << 63, top} {
		if wide.Small(n) != (wide.Num{n}) {
			t.Error(wide.Small(n))
		}
	}
	s := "\x01\x02\x03\x04\x05\x06\x07\x08\x11\x12\x13\x14\x15\x16\x17\x18\x21\x22\x23\x24\x25\x26\x27\x28\x31\x32\x33\x34\x35\x36\x37\x38"
	want := wide.Num{0x0807060504030201, 0x1817161514131211, 0x2827262524232221, 0x3837363534333231}
	if n, e := wide.Of(s); n != want || e != api.OK || want.Bytes() != s {
		t.Errorf("%x, %d, %q", n, e, want.Bytes())
	}
	for _, n := range numbers() {
		b := make([]byte, 32)
		bigOf(n).FillBytes(b)
		slices.Reverse(b)
		if got, e := wide.Of(string(b)); n.Bytes() != string(b) || got != n || e != api.OK {
			t.Errorf("%x: %q, %x, %d", n, n.Bytes(), got, e)
		}
	}
}

func TestP13_1OfTakesJust32Bytes(t *testing.T) {
	for _, size := range []int{0, 1, 8, 31, 33, 64} {
		if n, e := wide.Of(strings.Repeat("\x07", size)); n != (wide.Num{}) || e != api.ErrArg {
			t.Errorf("of %d bytes: %x, %d", size, n, e)
		}
	}
}

func TestP13_1BitLenAndIsZero(t *testing.T) {
	for _, n := range numbers() {
		b := bigOf(n)
		for i := range 256 {
			if n.Bit(i) != b.Bit(i) {
				t.Fatalf("bit %d of %x: %d", i, n, n.Bit(i))
			}
		}
		for _, i := range []int{-1, -64, 256, 257, 320, math.MinInt, math.MaxInt} {
			if n.Bit(i) != 0 {
				t.Errorf("bit %d of %x", i, n)
			}
		}
		if n.Len() != b.BitLen() || n.IsZero() != (b.Sign() == 0) {
			t.Errorf("%x: %d, %v", n, n.Len(), n.IsZero())
		}
	}
	for i := range 256 {
		n := numOf(power(i))
		if n.Len() != i+1 || n.IsZero() || n.Bit(i) != 1 {
			t.Errorf("2^%d: %d", i, n.Len())
		}
	}
}

func carried(yes bool) uint64 {
	if yes {
		return 1
	}
	return 0
}

func TestP13_2CmpAddSubAndMul(t *testing.T) {
	for _, a := range numbers() {
		for _, b := range numbers() {
			x, y := bigOf(a), bigOf(b)
			if wide.Cmp(a, b) != x.Cmp(y) {
				t.Errorf("Cmp(%x, %x): %d", a, b, wide.Cmp(a, b))
			}
			sum := new(big.Int).Add(x, y)
			if n, over := wide.Add(a, b); n != numOf(sum) || over != carried(sum.BitLen() > 256) {
				t.Errorf("Add(%x, %x): %x, %d", a, b, n, over)
			}
			if n, less := wide.Sub(a, b); n != numOf(new(big.Int).Sub(x, y)) || less != carried(x.Cmp(y) < 0) {
				t.Errorf("Sub(%x, %x): %x, %d", a, b, n, less)
			}
			product := new(big.Int).Mul(x, y)
			if lo, hi := wide.Mul(a, b); lo != numOf(product) || hi != numOf(product.Rsh(product, 256)) {
				t.Errorf("Mul(%x, %x): %x, %x", a, b, lo, hi)
			}
		}
	}
}

func TestP13_2Rem(t *testing.T) {
	for _, lo := range numbers() {
		for i, hi := range numbers() {
			if i%2 == 1 { // half of them are enough
				continue
			}
			all := new(big.Int).Lsh(bigOf(hi), 256)
			all.Add(all, bigOf(lo))
			for _, m := range numbers() {
				var want wide.Num
				if !m.IsZero() {
					want = numOf(new(big.Int).Mod(all, bigOf(m)))
				}
				if got := wide.Rem(lo, hi, m); got != want {
					t.Fatalf("Rem(%x, %x, %x): %x, not %x", lo, hi, m, got, want)
				}
			}
		}
	}
}

func TestP13_2ByHand(t *testing.T) {
	all, half := wide.Num{top, top, top, top}, wide.Num{0, 0, 0, 1 << 63}
	if n, over := wide.Add(all, wide.Small(1)); !n.IsZero() || over != 1 {
		t.Error(n, over)
	}
	if lo, hi := wide.Mul(half, wide.Small(2)); !lo.IsZero() || hi != wide.Small(1) {
		t.Error(lo, hi)
	}
	if n := wide.Rem(wide.Small(5), wide.Num{}, wide.Small(3)); n != wide.Small(2) {
		t.Error(n)
	}
	if n := wide.Rem(all, all, wide.Num{}); !n.IsZero() {
		t.Error(n)
	}
	if n := wide.Rem(all, all, all); !n.IsZero() {
		t.Error(n)
	}
	if n, less := wide.Sub(wide.Num{}, wide.Small(1)); n != all || less != 1 {
		t.Error(n, less)
	}
}

func TestP13_3WhatFollows(t *testing.T) {
	l := numbers()
	for i, a := range l {
		b, m := l[(i+7)%len(l)], l[(i+13)%len(l)]
		sum, over := wide.Add(a, b)
		if back, less := wide.Sub(sum, b); back != a || less != over {
			t.Errorf("%x and %x: back to %x", a, b, back)
		}
		lo, hi := wide.Mul(a, b)
		if !m.IsZero() && wide.Cmp(wide.Rem(lo, hi, m), m) >= 0 {
			t.Errorf("a rest by %x isn't below it", m)
		}
		var sumLo, sumHi wide.Num // a, times each of b's words, put where that stands
		for j := range 4 {
			short := wide.Num{}
			short[j] = b[j]
			partLo, partHi := wide.Mul(a, short)
			var carry uint64
			sumLo, carry = wide.Add(sumLo, partLo)
			sumHi, _ = wide.Add(sumHi, partHi)
			sumHi, _ = wide.Add(sumHi, wide.Small(carry))
		}
		if sumLo != lo || sumHi != hi {
			t.Errorf("%x times %x: %x, %x by parts", a, b, sumLo, sumHi)
		}
	}
}

func TestP7EveryCallEnds(t *testing.T) {
	for _, size := range []int{0, 1, 31, 32, 33, 1 << 16} {
		n, _ := wide.Of(strings.Repeat("\xff", size))
		for i := -300; i < 600; i++ {
			n.Bit(i)
		}
		for _, m := range []wide.Num{{}, {1}, {0, 0, 0, top}, {top, top, top, top}} {
			wide.Cmp(n, m)
			wide.Add(n, m)
			wide.Sub(n, m)
			wide.Mul(n, m)
			wide.Rem(n, n, m)
		}
	}
}
