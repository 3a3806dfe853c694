package prime_test

import (
	"math"
	"math/big"
	"math/rand"
	"slices"
	"strings"
	"testing"

	"sealring/api"
	"sealring/prime"
	"sealring/wide"
)

const top = math.MaxUint64

// p is 2^255 - 19.
var p = less(255, 19)

// less is 2^bits, less n.
func less(bits uint, n int64) *big.Int {
	b := new(big.Int).Lsh(big.NewInt(1), bits)
	return b.Sub(b, big.NewInt(n))
}

// bytesOf are a number's 32 bytes, the lowest one first.
func bytesOf(b *big.Int) string {
	out := make([]byte, 32)
	b.FillBytes(out)
	slices.Reverse(out)
	return string(out)
}

func numOf(b *big.Int) wide.Num {
	n, _ := wide.Of(bytesOf(b))
	return n
}

func bigOf(n wide.Num) *big.Int {
	b := []byte(n.Bytes())
	slices.Reverse(b)
	return new(big.Int).SetBytes(b)
}

// nums are numbers of 256 bits: about p, twice p and the words' ends, and others.
func nums() []wide.Num {
	l := []wide.Num{{}, {1}, {2}, {3}, {4}, {5}, {18}, {19}, {37}, {38}, {39}, {top}, {top, top}, {0, 1}, {0, 0, 1}, {0, 0, 0, 1}, {0, 0, 0, 1 << 63}, {top, top, top, top}, {top - 1, top, top, top}, {0, 0, 0, top}, {top - 37, top, top, top}}
	for d := int64(-3); d <= 21; d++ {
		l = append(l, numOf(less(255, 19-d)), numOf(less(256, 38-d)))
	}
	r := rand.New(rand.NewSource(19))
	for range 20 {
		l = append(l, wide.Num{r.Uint64(), r.Uint64(), r.Uint64(), r.Uint64()})
	}
	return l
}

// is holds a number against the rest of another one by p.
func is(t *testing.T, what string, got prime.El, want *big.Int) {
	t.Helper()
	rest := new(big.Int).Mod(want, p)
	if prime.Num(got) != numOf(rest) || prime.Bytes(got) != bytesOf(rest) || prime.Odd(got) != (rest.Bit(0) == 1) || got != prime.Mod(numOf(rest)) {
		t.Errorf("%s: %x, not %x", what, prime.Num(got), numOf(rest))
	}
}

// els are numbers below p, and the same as the tests' own.
func els() ([]prime.El, []*big.Int) {
	var l []prime.El
	var m []*big.Int
	for _, n := range nums() {
		l = append(l, prime.Mod(n))
		m = append(m, new(big.Int).Mod(bigOf(n), p))
	}
	return l, m
}

func TestP19_1PModAndSmall(t *testing.T) {
	if prime.P() != numOf(p) || prime.P() != (wide.Num{top - 18, top, top, top >> 1}) {
		t.Errorf("%x", prime.P())
	}
	for _, n := range nums() {
		is(t, "Mod", prime.Mod(n), bigOf(n))
	}
	for _, n := range []uint64{0, 1, 2, 19, 1 << 63, top} {
		is(t, "Small", prime.Small(n), new(big.Int).SetUint64(n))
	}
	if prime.Mod(prime.P()) != prime.Small(0) || prime.Mod(wide.Num{top, top, top, top}) != prime.Small(37) || prime.Mod(numOf(less(255, 0))) != prime.Small(19) {
		t.Error("by hand")
	}
}

func TestP19_1Of(t *testing.T) {
	for _, n := range nums() {
		e, err := prime.Of(n.Bytes())
		if bigOf(n).Cmp(p) >= 0 {
			if e != (prime.El{}) || err != api.ErrRange {
				t.Errorf("Of(%x): %x, %d", n, prime.Num(e), err)
			}
			continue
		}
		if prime.Num(e) != n || prime.Bytes(e) != n.Bytes() || err != api.OK {
			t.Errorf("Of(%x): %x, %d", n, prime.Num(e), err)
		}
	}
	for _, size := range []int{0, 1, 31, 33, 64} {
		for _, c := range []string{"\x00", "\x07", "\xff"} {
			if e, err := prime.Of(strings.Repeat(c, size)); e != (prime.El{}) || err != api.ErrArg {
				t.Errorf("of %d bytes: %x, %d", size, prime.Num(e), err)
			}
		}
	}
	if e, err := prime.Of("\x02\x01" + strings.Repeat("\x00", 30)); e != prime.Small(258) || err != api.OK {
		t.Error(e, err)
	}
}

func TestP19_1TwoAreEqualJustIfTheirNumbersAre(t *testing.T) {
	l, m := els()
	for i, a := range l {
		for j, b := range l {
			if (a == b) != (m[i].Cmp(m[j]) == 0) {
				t.Errorf("%x and %x", m[i], m[j])
			}
		}
	}
	if (prime.El{}) != prime.Small(0) || prime.Odd(prime.El{}) || prime.Sub(l[5], l[5]) != (prime.El{}) {
		t.Error("a zero one")
	}
}

func TestP19_2AddSubNegAndMul(t *testing.T) {
	l, m := els()
	for i, a := range l {
		is(t, "Neg", prime.Neg(a), new(big.Int).Neg(m[i]))
		is(t, "Add of one", prime.Add(a), m[i])
		is(t, "Mul of one", prime.Mul(a), m[i])
		for j, b := range l {
			is(t, "Add", prime.Add(a, b), new(big.Int).Add(m[i], m[j]))
			is(t, "Sub", prime.Sub(a, b), new(big.Int).Sub(m[i], m[j]))
			is(t, "Mul", prime.Mul(a, b), new(big.Int).Mul(m[i], m[j]))
		}
	}
	sum, product := new(big.Int), big.NewInt(1)
	for i := range l {
		is(t, "Add of many", prime.Add(l[:i]...), sum)
		is(t, "Mul of many", prime.Mul(l[len(l)-i:]...), product)
		sum.Add(sum, m[i])
		product.Mul(product, m[len(l)-1-i])
	}
	if prime.Add() != prime.Small(0) || prime.Mul() != prime.Small(1) || prime.Mul(prime.Small(5), prime.Small(0), prime.Small(3)) != (prime.El{}) {
		t.Error("by hand")
	}
	is(t, "0 less 1", prime.Sub(prime.Small(0), prime.Small(1)), less(255, 20))
	is(t, "Neg of 0", prime.Neg(prime.El{}), new(big.Int))
}

func TestP19_2MulOfWordsEnds(t *testing.T) {
	r := rand.New(rand.NewSource(38))
	pick := func() uint64 { return []uint64{0, 1, top, top - 1, 1 << 63, r.Uint64()}[r.Intn(6)] }
	for range 20000 {
		a, b := prime.Mod(wide.Num{pick(), pick(), pick(), pick()}), prime.Mod(wide.Num{pick(), pick(), pick(), pick()})
		is(t, "Mul", prime.Mul(a, b), new(big.Int).Mul(bigOf(prime.Num(a)), bigOf(prime.Num(b))))
	}
}

// factors are two numbers below p whose product is that of twice p and some number, and v; found, unless there are none with this first one.
func factors(a, v *big.Int) (*big.Int, bool) {
	twice := new(big.Int).Lsh(p, 1)
	inverse := new(big.Int).ModInverse(twice, a)
	if inverse == nil {
		return nil, false
	}
	high := new(big.Int).Mul(v, inverse)
	high.Mod(high.Neg(high), a)
	low := new(big.Int).Sub(v, new(big.Int).Mul(high, big.NewInt(38)))
	if low.Sign() < 0 || low.BitLen() > 256 {
		return nil, false
	}
	b := high.Div(high.Add(high.Mul(high, twice), v), a)
	return b, b.Cmp(p) < 0
}

// TestP19_2MulOfCarries takes products whose part below 2^256 comes, with 38 times what stands above it, just below so many times 2^256: what is left over carries once more.
func TestP19_2MulOfCarries(t *testing.T) {
	r := rand.New(rand.NewSource(255))
	seen := 0
	for try := range 4000 {
		v := new(big.Int).Lsh(big.NewInt(int64(2+try%6)), 256)
		v.Sub(v, big.NewInt(int64(1+try%30)))
		a := new(big.Int).Rand(r, less(254, 0))
		b, ok := factors(a, v)
		if !ok {
			continue
		}
		seen++
		is(t, "Mul", prime.Mul(prime.Mod(numOf(a)), prime.Mod(numOf(b))), new(big.Int).Mul(a, b))
	}
	if seen < 20 {
		t.Error("too few were found:", seen)
	}
}

func TestP19_2Pow(t *testing.T) {
	l, m := els()
	powers := []wide.Num{{}, {1}, {2}, {3}, {10}, {top}, {0, 1}, {0, 0, 0, 1 << 63}, {top, top, top, top}, prime.P(), {0x123456789abcdef, 77, 0, 5}}
	for i := 0; i < len(l); i += 2 {
		for _, k := range powers {
			is(t, "Pow", prime.Pow(l[i], k), new(big.Int).Exp(m[i], bigOf(k), p))
		}
	}
	if prime.Pow(prime.El{}, wide.Num{}) != prime.Small(1) || prime.Pow(prime.El{}, wide.Small(1)) != (prime.El{}) || prime.Pow(prime.Small(3), wide.Small(4)) != prime.Small(81) {
		t.Error("by hand")
	}
}

func TestP19_2Inv(t *testing.T) {
	l, m := els()
	for i, a := range l {
		if m[i].Sign() == 0 {
			if prime.Inv(a) != (prime.El{}) {
				t.Error("of 0")
			}
			continue
		}
		is(t, "Inv", prime.Inv(a), new(big.Int).ModInverse(m[i], p))
	}
	is(t, "Inv of 2", prime.Inv(prime.Small(2)), less(254, 9))
	if prime.Inv(prime.Small(0)) != prime.Small(0) || prime.Inv(prime.Small(1)) != prime.Small(1) {
		t.Error("by hand")
	}
}

func TestP19_2Root(t *testing.T) {
	l, m := els()
	found := [2]int{}
	for i, a := range l {
		root, ok := prime.Root(a)
		want := new(big.Int).ModSqrt(m[i], p)
		if ok != (want != nil) {
			t.Fatalf("Root(%x): %v", m[i], ok)
		}
		if !ok {
			found[0]++
			if root != (prime.El{}) {
				t.Errorf("Root(%x): %x, false", m[i], prime.Num(root))
			}
			continue
		}
		found[1]++
		if want.Bit(0) == 1 {
			want.Sub(p, want)
		}
		is(t, "Root", root, want)
	}
	if found[0] < 10 || found[1] < 10 {
		t.Error("too few of one kind", found)
	}
	for n, want := range map[uint64]uint64{0: 0, 4: 2, 16: 4, 36: 6} {
		if root, ok := prime.Root(prime.Small(n)); root != prime.Small(want) || !ok {
			t.Errorf("Root(%d): %x, %v", n, prime.Num(root), ok)
		}
	}
	for n, root := range map[uint64]int64{1: 1, 9: 3, 25: 5} { // whose small root is odd
		got, ok := prime.Root(prime.Small(n))
		is(t, "Root", got, big.NewInt(-root))
		if !ok {
			t.Error(n)
		}
	}
	if _, ok := prime.Root(prime.Small(2)); ok {
		t.Error("of 2")
	}
	if root, ok := prime.Root(prime.Neg(prime.Small(1))); !ok || prime.Mul(root, root) != prime.Neg(prime.Small(1)) || prime.Odd(root) {
		t.Error("of -1")
	}
}

func TestP19_3WhatFollows(t *testing.T) {
	l, _ := els()
	for i, a := range l {
		b, c := l[(i+11)%len(l)], l[(i+29)%len(l)]
		if prime.Mul(a, prime.Add(b, c)) != prime.Add(prime.Mul(a, b), prime.Mul(a, c)) || prime.Mul(a, prime.Sub(b, c)) != prime.Sub(prime.Mul(a, b), prime.Mul(a, c)) {
			t.Errorf("products of %x", prime.Num(a))
		}
		if a != prime.Small(0) && prime.Mul(a, prime.Inv(a)) != prime.Small(1) {
			t.Errorf("Inv of %x", prime.Num(a))
		}
		if root, ok := prime.Root(prime.Mul(a, a)); !ok || root != a && root != prime.Neg(a) || prime.Odd(root) {
			t.Errorf("Root of the square of %x: %x, %v", prime.Num(a), prime.Num(root), ok)
		}
		if prime.Add(a, prime.Neg(a)) != prime.Small(0) || prime.Pow(a, wide.Small(3)) != prime.Mul(a, a, a) {
			t.Errorf("%x", prime.Num(a))
		}
	}
}

func TestP7EveryCallEnds(t *testing.T) {
	for _, size := range []int{0, 1, 31, 32, 33, 1 << 16} {
		prime.Of(strings.Repeat("\xff", size))
	}
	for _, n := range nums() {
		e := prime.Mod(n)
		prime.Pow(e, n)
		prime.Inv(e)
		prime.Root(e)
		prime.Odd(e)
		prime.Bytes(e)
	}
	prime.Add(nil...)
	prime.Mul(nil...)
}
