package scalar_test

import (
	"math"
	"math/big"
	"math/rand"
	"slices"
	"strings"
	"testing"

	"sealring/api"
	"sealring/scalar"
	"sealring/wide"
)

const top = math.MaxUint64

// order is L, from its digits to the base 16.
func order() *big.Int {
	n, _ := new(big.Int).SetString("1"+strings.Repeat("0", 31)+"14def9dea2f79cd65812631a5cf5d3ed", 16)
	return n
}

// bigOf is the number of bytes, the lowest one first.
func bigOf(s string) *big.Int {
	b := []byte(s)
	slices.Reverse(b)
	return new(big.Int).SetBytes(b)
}

// bytesOf are a number's bytes, so many of them, the lowest one first.
func bytesOf(b *big.Int, size int) string {
	out := make([]byte, size)
	b.FillBytes(out)
	slices.Reverse(out)
	return string(out)
}

// numOf is the rest of a number by L.
func numOf(b *big.Int) wide.Num {
	n, _ := wide.Of(bytesOf(new(big.Int).Mod(b, order()), 32))
	return n
}

// nums are numbers of 256 bits: about L and so many times it, and others.
func nums() []wide.Num {
	l := []wide.Num{{}, {1}, {2}, {5}, {top}, {0, 1}, {0, 0, 1}, {0, 0, 0, 1 << 60}, {0, 0, 0, 1 << 63}, {top, top, top, top}, {top - 1, top, top, top}, {0, 0, 0, top}}
	for _, times := range []int64{1, 2, 8, 15} {
		for d := int64(-2); d <= 2; d++ {
			b := new(big.Int).Mul(order(), big.NewInt(times))
			n, _ := wide.Of(bytesOf(b.Add(b, big.NewInt(d)), 32))
			l = append(l, n)
		}
	}
	r := rand.New(rand.NewSource(22))
	for range 12 {
		l = append(l, wide.Num{r.Uint64(), r.Uint64(), r.Uint64(), r.Uint64() >> 4}, wide.Num{r.Uint64(), r.Uint64(), r.Uint64(), r.Uint64()})
	}
	return l
}

func TestP22_1L(t *testing.T) {
	if bigOf(scalar.L().Bytes()).Cmp(order()) != 0 {
		t.Errorf("%x", scalar.L())
	}
	sum, _ := new(big.Int).SetString("27742317777372353535851937790883648493", 10)
	if sum.Add(sum, new(big.Int).Lsh(big.NewInt(1), 252)).Cmp(order()) != 0 {
		t.Error("the digits")
	}
}

func TestP22_1Of(t *testing.T) {
	for _, n := range nums() {
		got, e := scalar.Of(n.Bytes())
		if bigOf(n.Bytes()).Cmp(order()) >= 0 {
			if !got.IsZero() || e != api.ErrScalar {
				t.Errorf("Of(%x): %x, %d", n, got, e)
			}
		} else if got != n || e != api.OK {
			t.Errorf("Of(%x): %x, %d", n, got, e)
		}
	}
	for _, size := range []int{0, 1, 31, 33, 64} {
		for _, c := range []string{"\x00", "\xff"} {
			if got, e := scalar.Of(strings.Repeat(c, size)); !got.IsZero() || e != api.ErrArg {
				t.Errorf("of %d bytes: %x, %d", size, got, e)
			}
		}
	}
	if got, e := scalar.Of("\x02\x01" + strings.Repeat("\x00", 30)); got != wide.Small(258) || e != api.OK {
		t.Error(got, e)
	}
}

func TestP22_1Reduce(t *testing.T) {
	look := func(s string) {
		t.Helper()
		if got, e := scalar.Reduce(s); got != numOf(bigOf(s)) || e != api.OK {
			t.Errorf("Reduce(%x): %x, %d", s, got, e)
		}
	}
	r := rand.New(rand.NewSource(64))
	for size := range 65 {
		b := make([]byte, size)
		r.Read(b)
		for _, s := range []string{string(b), strings.Repeat("\xff", size), strings.Repeat("\x00", size), strings.Repeat("\x00", max(size-1, 0)) + "\x80"} {
			look(s)
		}
	}
	for _, n := range nums() {
		look(n.Bytes())
		look(n.Bytes() + n.Bytes())
		look(n.Bytes() + "\x01")
		look("\x00" + n.Bytes())
	}
	square := new(big.Int).Mul(order(), order())
	for d := int64(-1); d <= 1; d++ {
		look(bytesOf(new(big.Int).Add(square, big.NewInt(d)), 64))
	}
	if got, e := scalar.Reduce(""); !got.IsZero() || e != api.OK {
		t.Error(got, e)
	}
	if got, e := scalar.Reduce("\x05"); got != wide.Small(5) || e != api.OK {
		t.Error(got, e)
	}
}

func TestP22_1ReduceOfTooMany(t *testing.T) {
	for _, size := range []int{65, 66, 96, 128, 1 << 16} {
		for _, c := range []string{"\x00", "\x01", "\xff"} {
			if got, e := scalar.Reduce(strings.Repeat(c, size)); !got.IsZero() || e != api.ErrLong {
				t.Errorf("of %d bytes: %x, %d", size, got, e)
			}
		}
	}
}

func TestP22_2SumAndProduct(t *testing.T) {
	l := nums()
	for _, a := range l {
		x := bigOf(a.Bytes())
		if scalar.Sum(a) != numOf(x) || scalar.Product(a) != numOf(x) {
			t.Errorf("of %x alone: %x, %x", a, scalar.Sum(a), scalar.Product(a))
		}
		for _, b := range l {
			y := bigOf(b.Bytes())
			if got := scalar.Sum(a, b); got != numOf(new(big.Int).Add(x, y)) {
				t.Errorf("Sum(%x, %x): %x", a, b, got)
			}
			if got := scalar.Product(a, b); got != numOf(new(big.Int).Mul(x, y)) {
				t.Errorf("Product(%x, %x): %x", a, b, got)
			}
		}
	}
	sum, product := new(big.Int), big.NewInt(1)
	for i := range l {
		if got := scalar.Sum(l[:i]...); got != numOf(sum) {
			t.Errorf("Sum of %d: %x", i, got)
		}
		if got := scalar.Product(l[len(l)-i:]...); got != numOf(product) {
			t.Errorf("Product of %d: %x", i, got)
		}
		sum.Add(sum, bigOf(l[i].Bytes()))
		product.Mul(product, bigOf(l[len(l)-1-i].Bytes()))
	}
	if !scalar.Sum().IsZero() || scalar.Product() != wide.Small(1) || scalar.Sum(scalar.L(), wide.Small(1)) != wide.Small(1) || !scalar.Product(wide.Small(3), scalar.L(), wide.Small(3)).IsZero() {
		t.Error("by hand")
	}
}

func TestP22_2WhatIsHandedInIsNotChanged(t *testing.T) {
	l := nums()
	scalar.Sum(l...)
	scalar.Product(l...)
	if !slices.Equal(l, nums()) {
		t.Error(l)
	}
}

func TestP22_3ProductsSpreadOverSums(t *testing.T) {
	l := nums()
	for i, a := range l {
		b, c := l[(i+7)%len(l)], l[(i+19)%len(l)]
		if scalar.Product(a, scalar.Sum(b, c)) != scalar.Sum(scalar.Product(a, b), scalar.Product(a, c)) {
			t.Errorf("%x, %x, %x", a, b, c)
		}
	}
}

func TestP7EveryCallEnds(t *testing.T) {
	for size := range 200 {
		s := strings.Repeat("\xff", size)
		scalar.Of(s)
		scalar.Reduce(s)
	}
	scalar.Sum(nil...)
	scalar.Product(nil...)
}
