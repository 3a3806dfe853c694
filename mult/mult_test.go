package mult_test

import (
	"crypto/ed25519"
	"crypto/sha512"
	"math/big"
	"math/rand"
	"slices"
	"testing"

	"sealring/api"
	"sealring/curve"
	"sealring/mult"
	"sealring/prime"
	"sealring/wide"
)

// p is 2^255 - 19; order is that of the base, 2^252 and what follows.
var (
	p     = new(big.Int).Sub(new(big.Int).Lsh(big.NewInt(1), 255), big.NewInt(19))
	order = decimal("7237005577332262213973186563042994240857116359379907606001950938285454250989")
	d     = decimal("37095705934669439343138083508754565189542113879843219016388785533085940283555")
	base  = pair{
		decimal("15112221349535400772501151409588531511454012693041857206046113283949847762202"),
		decimal("46316835694926478169428394003475163141307993866256225615783033603165251855960"),
	}
	zero = pair{big.NewInt(0), big.NewInt(1)}
)

func decimal(s string) *big.Int {
	n, _ := new(big.Int).SetString(s, 10)
	return n
}

// bytesOf are a number's 32, the lowest one first.
func bytesOf(n *big.Int) string {
	b := make([]byte, 32)
	n.FillBytes(b)
	slices.Reverse(b)
	return string(b)
}

func wideOf(n *big.Int) wide.Num {
	w, e := wide.Of(bytesOf(n))
	if e != api.OK {
		panic(e)
	}
	return w
}

func elOf(n *big.Int) prime.El {
	e, f := prime.Of(bytesOf(new(big.Int).Mod(n, p)))
	if f != api.OK {
		panic(f)
	}
	return e
}

// pair is a point by the tests' own reckoning.
type pair struct{ x, y *big.Int }

func mul(l ...*big.Int) *big.Int {
	out := big.NewInt(1)
	for _, n := range l {
		out.Mul(out, n).Mod(out, p)
	}
	return out
}

func add(a, b *big.Int) *big.Int { return new(big.Int).Add(a, b) }

func sub(a, b *big.Int) *big.Int { return new(big.Int).Sub(a, b) }

func quotient(a, b *big.Int) *big.Int {
	return mul(a, new(big.Int).ModInverse(new(big.Int).Mod(b, p), p))
}

// sum is as curve's chapter tells it.
func sum(a, b pair) pair {
	one, all := big.NewInt(1), mul(d, a.x, b.x, a.y, b.y)
	return pair{
		quotient(add(mul(a.x, b.y), mul(a.y, b.x)), add(one, all)),
		quotient(add(mul(a.y, b.y), mul(a.x, b.x)), sub(one, all)),
	}
}

func times(n *big.Int, a pair) pair {
	out := zero
	for i := n.BitLen() - 1; i >= 0; i-- {
		if out = sum(out, out); n.Bit(i) == 1 {
			out = sum(out, a)
		}
	}
	return out
}

func is(t *testing.T, what string, got curve.Point, want pair) {
	t.Helper()
	x, y := curve.XY(got)
	if x != elOf(want.x) || y != elOf(want.y) {
		t.Errorf("%s: (%x, %x), not (%x, %x)", what, prime.Num(x), prime.Num(y), want.x, want.y)
	}
}

func made(t *testing.T, a pair) curve.Point {
	t.Helper()
	q, e := curve.Make(elOf(a.x), elOf(a.y))
	if e != api.OK {
		t.Fatalf("(%d, %d): %d", a.x, a.y, e)
	}
	return q
}

// low are the eight points that come to (0, 1) when they are added 8 times: all are multiples of one, whose y is known.
func low(t *testing.T) []pair {
	t.Helper()
	y, ok := new(big.Int).SetString("7a03ac9277fdc74ec6cc392cfa53202a0f67100d760b3cba4fd84d3d706a17c7", 16)
	xx := quotient(sub(mul(y, y), big.NewInt(1)), add(mul(d, y, y), big.NewInt(1)))
	x := new(big.Int).ModSqrt(xx, p)
	if !ok || x == nil {
		t.Fatal("no point of the order 8")
	}
	var l []pair
	for i := range int64(8) {
		l = append(l, times(big.NewInt(i), pair{x, y}))
	}
	// The order is 8 just if the middle one is (0, -1), which comes to (0, 1) when it is doubled.
	if l[4].x.Sign() != 0 || l[4].y.Cmp(sub(p, big.NewInt(1))) != 0 {
		t.Fatal("not of the order 8")
	}
	return l
}

// mainAndMixed are points of the order of the base, and sums of such and of one of the order 2, 4 or 8.
func mainAndMixed(t *testing.T) (main, mixed []pair) {
	t.Helper()
	r := rand.New(rand.NewSource(23))
	main = []pair{base, times(sub(order, big.NewInt(1)), base), times(new(big.Int).Rand(r, order), base)}
	for i, a := range low(t)[1:] {
		mixed = append(mixed, sum(main[i%len(main)], a))
	}
	return main, mixed
}

func power(of int64, to uint) *big.Int { return new(big.Int).Lsh(big.NewInt(of), to) }

// longNumbers are those at the edges, and some between them.
func longNumbers() []*big.Int {
	one, highest := big.NewInt(1), sub(power(1, 256), big.NewInt(1))
	l := []*big.Int{sub(order, one), order, add(order, one), mul8(order), power(1, 64), sub(power(1, 64), one), power(1, 252), sub(power(1, 252), one), power(1, 255), power(15, 252), highest}
	r := rand.New(rand.NewSource(231))
	for range 4 {
		l = append(l, new(big.Int).Rand(r, highest))
	}
	// Each of the sixteen digits stands somewhere.
	return append(l, add(new(big.Int).SetUint64(0x0123456789abcdef), new(big.Int).Lsh(new(big.Int).SetUint64(0xfedcba9876543210), 128)))
}

func mul8(n *big.Int) *big.Int { return new(big.Int).Lsh(n, 3) }

func TestP23_1TimesOfSmallNumbers(t *testing.T) {
	main, mixed := mainAndMixed(t)
	for _, a := range slices.Concat(main[:2], mixed[:1], low(t)) {
		q, want := made(t, a), zero
		for n := range uint64(70) {
			is(t, "Times", mult.Times(wide.Small(n), q), want)
			want = sum(want, a)
		}
	}
}

func TestP23_1TimesOfLongNumbers(t *testing.T) {
	main, mixed := mainAndMixed(t)
	for i, n := range longNumbers() {
		for _, a := range []pair{base, main[2], mixed[i%len(mixed)], low(t)[1]} {
			is(t, "Times", mult.Times(wideOf(n), made(t, a)), times(n, a))
		}
	}
}

func TestP23_1TimesOfSingleBits(t *testing.T) {
	_, mixed := mainAndMixed(t)
	a := mixed[0]
	q := made(t, a)
	for i := range uint(256) {
		is(t, "Times", mult.Times(wideOf(power(1, i)), q), a)
		a = sum(a, a)
	}
}

func TestP23_1PointsThatWereNeverMade(t *testing.T) {
	var never curve.Point
	for _, n := range append(longNumbers(), big.NewInt(0), big.NewInt(1)) {
		is(t, "Times", mult.Times(wideOf(n), never), zero)
		is(t, "Both", mult.Both(wideOf(n), never, wide.Small(3)), times(big.NewInt(3), base))
	}
	if !mult.Small(never) || !mult.Main(never) {
		t.Error("Zero isn't Small, or not Main")
	}
}

// What comes out of sums isn't what Make has put there.
func TestP23_1TimesOfWhatWasReckoned(t *testing.T) {
	q := curve.Add(curve.Base(), curve.Double(curve.Base()))
	for range 3 {
		q = mult.Times(wide.Small(5), q)
	}
	is(t, "on", q, times(big.NewInt(375), base))
	is(t, "Neg", mult.Times(wide.Small(5), curve.Neg(q)), times(sub(order, big.NewInt(1875)), base))
}

func TestP23_1Base(t *testing.T) {
	for _, n := range append(longNumbers(), big.NewInt(0), big.NewInt(1), big.NewInt(2), big.NewInt(15), big.NewInt(16), big.NewInt(17)) {
		is(t, "Base", mult.Base(wideOf(n)), times(n, base))
	}
}

// The library's keys are the base, so many times; of them y is told, and whether x is odd.
func TestP23_1BaseOfTheLibrarysKeys(t *testing.T) {
	r := rand.New(rand.NewSource(232))
	for range 40 {
		seed := make([]byte, ed25519.SeedSize)
		r.Read(seed)
		hash := sha512.Sum512(seed)
		number := hash[:32]
		number[0] &= 248
		number[31] = number[31]&127 | 64
		n, _ := wide.Of(string(number))
		public := []byte(ed25519.NewKeyFromSeed(seed).Public().(ed25519.PublicKey))
		x, y := curve.XY(mult.Base(n))
		isOdd := public[31] >= 128
		public[31] &= 127
		if prime.Bytes(y) != string(public) || prime.Odd(x) != isOdd {
			t.Errorf("%x: %x, not %x", seed, prime.Bytes(y), public)
		}
	}
}

func TestP23_1Both(t *testing.T) {
	main, mixed := mainAndMixed(t)
	numbers := []*big.Int{big.NewInt(0), big.NewInt(1), big.NewInt(16), sub(order, big.NewInt(1)), sub(power(1, 256), big.NewInt(1))}
	for _, a := range []pair{base, main[2], mixed[0], low(t)[3]} {
		var left []pair
		for _, n := range numbers {
			left = append(left, times(n, a))
		}
		for i, k := range numbers {
			for _, l := range numbers {
				is(t, "Both", mult.Both(wideOf(k), made(t, a), wideOf(l)), sum(left[i], times(l, base)))
			}
		}
	}
	less := made(t, pair{sub(p, base.x), base.y})
	is(t, "what goes off", mult.Both(wide.Small(7), less, wide.Small(7)), zero)
	is(t, "what goes off", mult.Both(wide.Small(2), less, wide.Small(7)), times(big.NewInt(5), base))
}

func TestP23_1SmallAndMain(t *testing.T) {
	main, mixed := mainAndMixed(t)
	asks := func(l []pair, small, main bool) {
		t.Helper()
		for _, a := range l {
			q := made(t, a)
			if mult.Small(q) != small || mult.Main(q) != main {
				t.Errorf("(%d, %d): %v, %v", a.x, a.y, mult.Small(q), mult.Main(q))
			}
		}
	}
	asks([]pair{zero}, true, true)
	asks(low(t)[1:], true, false)
	asks(main, false, true)
	asks(mixed, false, false)
}

func TestP23_2TheBaseComesToZero(t *testing.T) {
	order := wideOf(order)
	is(t, "Base", mult.Base(order), zero)
	is(t, "Times", mult.Times(order, curve.Base()), zero)
	is(t, "Both", mult.Both(order, curve.Base(), order), zero)
	for shift := range uint(4) {
		half := wideOf(power(1, 248+shift)) // a part of it alone doesn't
		if curve.Same(mult.Base(half), curve.Zero()) {
			t.Error("too soon")
		}
	}
}

func TestP23_2TimesOfASum(t *testing.T) {
	r := rand.New(rand.NewSource(233))
	_, mixed := mainAndMixed(t)
	limit := power(1, 255)
	for i := range 40 {
		q := made(t, mixed[i%len(mixed)])
		a, b := wideOf(new(big.Int).Rand(r, limit)), wideOf(new(big.Int).Rand(r, limit))
		both, over := wide.Add(a, b)
		if over != 0 {
			t.Fatal("too great")
		}
		if !curve.Same(mult.Times(both, q), curve.Add(mult.Times(a, q), mult.Times(b, q))) {
			t.Errorf("%x, %x", a, b)
		}
		if !curve.Same(mult.Both(a, q, b), curve.Add(mult.Times(a, q), mult.Base(b))) {
			t.Errorf("Both: %x, %x", a, b)
		}
	}
}
