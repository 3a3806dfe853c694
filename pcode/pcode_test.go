package pcode_test

import (
	"crypto/ed25519"
	"math/big"
	"math/rand"
	"slices"
	"strings"
	"testing"

	"sealring/api"
	"sealring/curve"
	"sealring/octet"
	"sealring/pcode"
	"sealring/prime"
)

var (
	p    = new(big.Int).Sub(new(big.Int).Lsh(big.NewInt(1), 255), big.NewInt(19))
	d, _ = new(big.Int).SetString("37095705934669439343138083508754565189542113879843219016388785533085940283555", 10)
)

// bytesOf are a number's 32, the lowest one first, with the highest bit set, if so.
func bytesOf(n *big.Int, high bool) string {
	b := make([]byte, 32)
	n.FillBytes(b)
	if high {
		b[0] |= 128
	}
	slices.Reverse(b)
	return string(b)
}

func elOf(n *big.Int) prime.El {
	e, f := prime.Of(bytesOf(n, false))
	if f != api.OK {
		panic(f)
	}
	return e
}

// xOf is the x that isn't odd of the points with that y, by the tests' own reckoning; nil, if there is none.
func xOf(y *big.Int) *big.Int {
	square := new(big.Int).Mul(y, y)
	over := new(big.Int).Sub(square, big.NewInt(1))
	under := new(big.Int).Add(new(big.Int).Mul(square, d), big.NewInt(1))
	under.ModInverse(under.Mod(under, p), p)
	over.Mul(over, under).Mod(over, p)
	x := new(big.Int).ModSqrt(over, p)
	if x != nil && x.Bit(0) == 1 {
		x.Sub(p, x)
	}
	return x
}

// fails asks for an error, and a point that is Zero.
func fails(t *testing.T, s string, e api.Errno) {
	t.Helper()
	if q, f := pcode.Decode(s); f != e || !curve.Same(q, curve.Zero()) {
		x, y := curve.XY(q)
		t.Errorf("%x: %d, (%x, %x), not %d", s, f, prime.Num(x), prime.Num(y), e)
	}
}

// reads asks for a point, and for its bytes again.
func reads(t *testing.T, s string, x, y *big.Int) {
	t.Helper()
	q, e := pcode.Decode(s)
	gotX, gotY := curve.XY(q)
	if e != api.OK || gotX != elOf(x) || gotY != elOf(y) {
		t.Errorf("%x: %d, (%x, %x), not (%x, %x)", s, e, prime.Num(gotX), prime.Num(gotY), x, y)
	}
	if b := pcode.Encode(q); b != s {
		t.Errorf("%x is written as %x", s, b)
	}
}

// both asks of a y below p for what it should be read as, with either highest bit.
func both(t *testing.T, y *big.Int) (isOn bool) {
	t.Helper()
	x := xOf(y)
	if x == nil {
		fails(t, bytesOf(y, false), api.ErrPoint)
		fails(t, bytesOf(y, true), api.ErrPoint)
		return false
	}
	reads(t, bytesOf(y, false), x, y)
	if x.Sign() == 0 {
		fails(t, bytesOf(y, true), api.ErrPoint)
	} else {
		reads(t, bytesOf(y, true), new(big.Int).Sub(p, x), y)
	}
	return true
}

func TestP21_1Encode(t *testing.T) {
	for want, q := range map[string]curve.Point{
		"\x01" + strings.Repeat("\x00", 31):          curve.Zero(),
		"\x58" + strings.Repeat("\x66", 31):          curve.Base(),
		"\x58" + strings.Repeat("\x66", 30) + "\xe6": curve.Neg(curve.Base()),
	} {
		if b := pcode.Encode(q); b != want {
			t.Errorf("%x, not %x", b, want)
		}
	}
	if b := pcode.Encode(curve.Point{}); b != "\x01"+strings.Repeat("\x00", 31) {
		t.Errorf("%x", b)
	}
	q := curve.Base()
	for range 50 {
		q = curve.Add(curve.Double(q), curve.Base())
		x, y := curve.XY(q)
		want := []byte(prime.Bytes(y))
		if prime.Odd(x) {
			want[31] += 128
		}
		if b := pcode.Encode(q); b != string(want) {
			t.Errorf("%x, not %x", b, want)
		}
	}
}

func TestP21_2HowManyBytes(t *testing.T) {
	for n := range 100 {
		s := strings.Repeat("\x00", n)
		if n != 32 {
			fails(t, s, api.ErrArg)
			fails(t, strings.Repeat("\xff", n), api.ErrArg)
		}
	}
	fails(t, pcode.Encode(curve.Base())+"\x00", api.ErrArg)
	fails(t, pcode.Encode(curve.Base())[1:], api.ErrArg)
}

func TestP21_2NotBelowTheModulus(t *testing.T) {
	for n := range int64(19) {
		y := new(big.Int).Add(p, big.NewInt(n))
		fails(t, bytesOf(y, false), api.ErrRange)
		fails(t, bytesOf(y, true), api.ErrRange)
	}
	fails(t, strings.Repeat("\xff", 32), api.ErrRange)
	for n := range int64(40) {
		both(t, new(big.Int).Sub(p, big.NewInt(n+1)))
	}
}

func TestP21_2EachSmallNumber(t *testing.T) {
	on := 0
	for y := range int64(150) {
		if both(t, big.NewInt(y)) {
			on++
		}
	}
	if on < 40 || on > 110 {
		t.Error(on)
	}
}

func TestP21_2TheTwoWithoutX(t *testing.T) {
	one, last := big.NewInt(1), new(big.Int).Sub(p, big.NewInt(1))
	for _, y := range []*big.Int{one, last} {
		reads(t, bytesOf(y, false), new(big.Int), y)
		fails(t, bytesOf(y, true), api.ErrPoint)
	}
}

func TestP21_2SomeNumbers(t *testing.T) {
	r := rand.New(rand.NewSource(21))
	for range 150 {
		both(t, new(big.Int).Rand(r, p))
	}
	// these have points that come to (0, 1) when they are added 8 times
	y, _ := new(big.Int).SetString("7a03ac9277fdc74ec6cc392cfa53202a0f67100d760b3cba4fd84d3d706a17c7", 16)
	for _, y := range []*big.Int{y, new(big.Int).Sub(p, y), new(big.Int)} {
		if !both(t, y) {
			t.Errorf("%d: no point", y)
		}
		q, _ := pcode.Decode(bytesOf(y, true))
		if four := curve.Double(curve.Double(q)); curve.Same(q, curve.Zero()) || !curve.Same(curve.Double(four), curve.Zero()) {
			t.Errorf("%d: no low one", y)
		}
	}
}

func TestP21_2PublicKeys(t *testing.T) {
	keys := []string{"d75a980182b10ab7d54bfed3c964073a0ee172f3daa62325af021a68f707511a", "3d4017c3e843895a92b70aa74d1b7ebc9c982ccf2ec4968cc0cd55f12af4660c", "fc51cd8e6218a1a38da47ed00230f0580816ed13ba3303ac5deb911548908025"}
	for i := range 40 {
		public := ed25519.NewKeyFromSeed([]byte(strings.Repeat(string(rune('A'+i)), 32)[:32]))[32:]
		keys = append(keys, octet.Hex(string(public)))
	}
	for _, key := range keys {
		s, _ := octet.Unhex(key)
		b := []byte(s)
		b[31] &= 127
		slices.Reverse(b)
		y := new(big.Int).SetBytes(b)
		if !both(t, y) {
			t.Error(key)
		}
		if q, e := pcode.Decode(s); e != api.OK || pcode.Encode(q) != s {
			t.Error(key, e)
		}
	}
}

func TestP21_3ThereAndBack(t *testing.T) {
	q := curve.Zero()
	adder := curve.NewAdder()
	for range 60 {
		for _, q := range []curve.Point{q, curve.Neg(q)} {
			if got, e := pcode.Decode(pcode.Encode(q)); e != api.OK || !curve.Same(got, q) {
				t.Error(e)
			}
		}
		q = adder.Add(curve.Double(q), curve.Base())
	}
}

func TestP7WhateverBytesCome(t *testing.T) {
	r := rand.New(rand.NewSource(7))
	for range 300 {
		b := make([]byte, 30+r.Intn(4))
		r.Read(b)
		s := string(b)
		switch q, e := pcode.Decode(s); {
		case len(s) != 32 && e != api.ErrArg:
			t.Errorf("%x: %d", s, e)
		case e == api.OK && pcode.Encode(q) != s:
			t.Errorf("%x", s)
		case e != api.OK && !curve.Same(q, curve.Zero()):
			t.Errorf("%x: %d", s, e)
		}
	}
}
