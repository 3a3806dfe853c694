package curve_test

import (
	"math/big"
	"math/rand"
	"slices"
	"testing"

	"sealring/api"
	"sealring/curve"
	"sealring/prime"
	"sealring/wide"
)

// p is 2^255 - 19; order is that of the base, 2^252 and what follows.
var (
	p     = new(big.Int).Sub(new(big.Int).Lsh(big.NewInt(1), 255), big.NewInt(19))
	order = decimal("7237005577332262213973186563042994240857116359379907606001950938285454250989")
	d     = decimal("37095705934669439343138083508754565189542113879843219016388785533085940283555")
	baseX = decimal("15112221349535400772501151409588531511454012693041857206046113283949847762202")
	baseY = decimal("46316835694926478169428394003475163141307993866256225615783033603165251855960")
)

func decimal(s string) *big.Int {
	n, _ := new(big.Int).SetString(s, 10)
	return n
}

// elOf is a number's rest by p.
func elOf(n *big.Int) prime.El {
	b := make([]byte, 32)
	new(big.Int).Mod(n, p).FillBytes(b)
	slices.Reverse(b)
	e, _ := prime.Of(string(b))
	return e
}

func bigOf(e prime.El) *big.Int {
	b := []byte(prime.Bytes(e))
	slices.Reverse(b)
	return new(big.Int).SetBytes(b)
}

// pair is a point by the tests' own reckoning.
type pair struct{ x, y *big.Int }

func mul(l ...*big.Int) *big.Int {
	out := big.NewInt(1)
	for _, n := range l {
		out.Mul(out, n).Mod(out, p)
	}
	return out
}

func add(a, b *big.Int) *big.Int { return new(big.Int).Add(a, b) }

func quotient(a, b *big.Int) *big.Int {
	return mul(a, new(big.Int).ModInverse(new(big.Int).Mod(b, p), p))
}

// sum is as the chapter tells it.
func sum(a, b pair) pair {
	one, all := big.NewInt(1), mul(d, a.x, b.x, a.y, b.y)
	return pair{
		quotient(add(mul(a.x, b.y), mul(a.y, b.x)), add(one, all)),
		quotient(add(mul(a.y, b.y), mul(a.x, b.x)), new(big.Int).Sub(one, all)),
	}
}

func times(n *big.Int, a pair) pair {
	out := pair{big.NewInt(0), big.NewInt(1)}
	for i := n.BitLen() - 1; i >= 0; i-- {
		if out = sum(out, out); n.Bit(i) == 1 {
			out = sum(out, a)
		}
	}
	return out
}

// isOn: does the curve have it?
func isOn(a pair) bool {
	xx, yy := mul(a.x, a.x), mul(a.y, a.y)
	left := new(big.Int).Sub(yy, xx)
	right := add(big.NewInt(1), mul(d, xx, yy))
	return left.Sub(left, right).Mod(left, p).Sign() == 0
}

// is holds a point against one of the tests' own.
func is(t *testing.T, what string, got curve.Point, want pair) {
	t.Helper()
	x, y := curve.XY(got)
	if x != elOf(want.x) || y != elOf(want.y) {
		t.Errorf("%s: (%d, %d), not (%d, %d)", what, bigOf(x), bigOf(y), want.x, want.y)
	}
}

func made(t *testing.T, a pair) curve.Point {
	t.Helper()
	q, e := curve.Make(elOf(a.x), elOf(a.y))
	if e != api.OK {
		t.Fatalf("(%d, %d): %d", a.x, a.y, e)
	}
	return q
}

// low are the eight points that come to (0, 1) when they are added 8 times: all are multiples of one, whose y is known.
func low(t *testing.T) []pair {
	t.Helper()
	y, ok := new(big.Int).SetString("7a03ac9277fdc74ec6cc392cfa53202a0f67100d760b3cba4fd84d3d706a17c7", 16)
	xx := quotient(new(big.Int).Sub(mul(y, y), big.NewInt(1)), add(mul(d, y, y), big.NewInt(1)))
	x := new(big.Int).ModSqrt(xx, p)
	if !ok || x == nil {
		t.Fatal("no point of the order 8")
	}
	var l []pair
	for i := range int64(8) {
		l = append(l, times(big.NewInt(i), pair{x, y}))
	}
	// The order is 8 just if the middle one is (0, -1), which comes to (0, 1) when it is doubled.
	if l[4].x.Sign() != 0 || l[4].y.Cmp(new(big.Int).Sub(p, big.NewInt(1))) != 0 {
		t.Fatal("not of the order 8")
	}
	return l
}

// points are of each kind: low ones, the base so many times, and both together.
func points(t *testing.T) []pair {
	t.Helper()
	r := rand.New(rand.NewSource(20))
	base := pair{baseX, baseY}
	l := low(t)
	eight := l[1]
	for _, n := range []*big.Int{big.NewInt(1), big.NewInt(2), big.NewInt(3), new(big.Int).Sub(order, big.NewInt(1)), new(big.Int).Rand(r, order)} {
		l = append(l, times(n, base))
	}
	for range 3 {
		l = append(l, sum(times(new(big.Int).Rand(r, order), base), times(big.NewInt(r.Int63n(8)), eight)))
	}
	return l
}

func TestP20_1DZeroAndBase(t *testing.T) {
	if curve.D() != elOf(d) || prime.Mul(curve.D(), prime.Small(121666)) != prime.Neg(prime.Small(121665)) {
		t.Errorf("%x", prime.Num(curve.D()))
	}
	is(t, "Zero", curve.Zero(), pair{big.NewInt(0), big.NewInt(1)})
	is(t, "Base", curve.Base(), pair{baseX, baseY})
	x, y := curve.XY(curve.Base())
	if prime.Mul(y, prime.Small(5)) != prime.Small(4) || prime.Odd(x) {
		t.Errorf("%x, %x", prime.Num(x), prime.Num(y))
	}
}

func TestP20_1Make(t *testing.T) {
	for _, a := range points(t) {
		is(t, "Make", made(t, a), a)
		is(t, "with the other x", made(t, pair{new(big.Int).Neg(a.x), a.y}), pair{new(big.Int).Neg(a.x), a.y})
		is(t, "with the other y", made(t, pair{a.x, new(big.Int).Neg(a.y)}), pair{a.x, new(big.Int).Neg(a.y)})
	}
	if q := made(t, pair{big.NewInt(0), big.NewInt(1)}); !curve.Same(q, curve.Zero()) {
		t.Error("Zero")
	}
}

func TestP20_1MakeOfWhatTheCurveHasNot(t *testing.T) {
	refused := func(a pair) {
		t.Helper()
		q, e := curve.Make(elOf(a.x), elOf(a.y))
		if isOn(a) {
			is(t, "Make", q, a)
		} else if e != api.ErrPoint {
			t.Errorf("(%d, %d): %d", a.x, a.y, e)
		} else {
			is(t, "of an error", q, pair{big.NewInt(0), big.NewInt(1)})
		}
	}
	for x := range int64(12) {
		for y := range int64(12) {
			if (x != 0 || y != 1) && isOn(pair{big.NewInt(x), big.NewInt(y)}) {
				t.Fatal("a small one")
			}
			refused(pair{big.NewInt(x), big.NewInt(y)})
			refused(pair{big.NewInt(-x), big.NewInt(-y)})
		}
	}
	one := big.NewInt(1)
	for _, a := range points(t) {
		refused(pair{add(a.x, one), a.y})
		refused(pair{a.x, add(a.y, one)})
		refused(pair{a.y, a.x})
		refused(pair{a.x, a.x})
	}
	r := rand.New(rand.NewSource(201))
	for range 50 {
		refused(pair{new(big.Int).Rand(r, p), new(big.Int).Rand(r, p)})
	}
}

func TestP20_1PointsThatWereNeverMade(t *testing.T) {
	var never curve.Point
	zero := pair{big.NewInt(0), big.NewInt(1)}
	is(t, "XY", never, zero)
	is(t, "Neg", curve.Neg(never), zero)
	is(t, "Double", curve.Double(never), zero)
	is(t, "Add", curve.Add(never), zero)
	is(t, "Add", curve.Add(never, never), zero)
	is(t, "Adder", curve.NewAdder().Add(never, never), zero)
	if !curve.Same(never, never) || !curve.Same(never, curve.Zero()) || !curve.Same(curve.Zero(), never) || curve.Same(never, curve.Base()) || curve.Same(curve.Base(), never) {
		t.Error("Same")
	}
	for _, a := range points(t) {
		q := made(t, a)
		is(t, "Add", curve.Add(never, q), a)
		is(t, "Add", curve.Add(q, never), a)
		is(t, "Adder", curve.NewAdder().Add(never, q), a)
		is(t, "Adder", curve.NewAdder().Add(q, never), a)
	}
}

func TestP20_2SumsOfTwo(t *testing.T) {
	adder := curve.NewAdder()
	l := points(t)
	for i, a := range l {
		q := made(t, a)
		is(t, "Double", curve.Double(q), sum(a, a))
		is(t, "Neg", curve.Neg(q), pair{new(big.Int).Neg(a.x), a.y})
		for j, b := range l {
			want := sum(a, b)
			is(t, "Add", curve.Add(q, made(t, b)), want)
			is(t, "Adder", adder.Add(q, made(t, b)), want)
			if same := curve.Same(q, made(t, b)); same != (i == j) {
				t.Errorf("Same(%d, %d): %v", i, j, same)
			}
		}
	}
}

func TestP20_2SumsOfMany(t *testing.T) {
	is(t, "of none", curve.Add(), pair{big.NewInt(0), big.NewInt(1)})
	var all []curve.Point
	want := pair{big.NewInt(0), big.NewInt(1)}
	for _, a := range points(t) {
		is(t, "of one", curve.Add(made(t, a)), a)
		all, want = append(all, made(t, a)), sum(want, a)
		is(t, "of many", curve.Add(all...), want)
	}
}

// sums are those that have gone on for some while, so that what stands behind them isn't what Make has put there.
func TestP20_2SumsOfSums(t *testing.T) {
	adder := curve.NewAdder()
	l := points(t)
	q, a := made(t, l[len(l)-1]), l[len(l)-1]
	for i, b := range l {
		switch i % 3 {
		case 0:
			q, a = curve.Double(q), sum(a, a)
		case 1:
			q, a = curve.Neg(adder.Add(made(t, b), q)), sum(a, b)
			a.x = new(big.Int).Neg(a.x)
		default:
			q, a = adder.Add(q, curve.Neg(made(t, b))), sum(a, pair{new(big.Int).Neg(b.x), b.y})
		}
		is(t, "on", q, a)
		is(t, "doubled", curve.Double(q), sum(a, a))
		is(t, "with another", curve.Add(q, made(t, b)), sum(a, b))
		is(t, "with itself", curve.Add(q, q), sum(a, a))
		if !curve.Same(q, made(t, a)) || !curve.Same(made(t, a), q) || curve.Same(q, curve.Neg(q)) != (mul(a.x, a.x).Sign() == 0) || curve.Same(q, made(t, pair{a.x, new(big.Int).Neg(a.y)})) {
			t.Error("Same")
		}
	}
}

func TestP20_2SameAsksForBoth(t *testing.T) {
	x, y := curve.XY(curve.Base())
	b := curve.Base()
	other := func(x, y prime.El) curve.Point {
		q, e := curve.Make(x, y)
		if e != api.OK {
			t.Fatal(e)
		}
		return q
	}
	for _, q := range []curve.Point{other(prime.Neg(x), y), other(x, prime.Neg(y)), other(prime.Neg(x), prime.Neg(y)), curve.Double(b), curve.Zero()} {
		if curve.Same(b, q) || curve.Same(q, b) {
			t.Error("Same")
		}
	}
	if third := curve.Add(b, b, b); !curve.Same(third, curve.Add(curve.Double(b), b)) || !curve.Same(curve.Add(third, curve.Neg(curve.Double(b))), b) {
		t.Error("by other ways")
	}
}

func TestP20_2WhatIsHandedInIsNotChanged(t *testing.T) {
	b := curve.Base()
	l := []curve.Point{b, curve.Double(b), b}
	before := slices.Clone(l)
	curve.Add(l[:2]...)
	if !slices.Equal(l, before) {
		t.Error("Add")
	}
}

func TestP20_3WhatFollows(t *testing.T) {
	r := rand.New(rand.NewSource(203))
	var l []curve.Point
	for _, a := range points(t) {
		q := made(t, a)
		l = append(l, q)
		if !curve.Same(curve.Add(q, curve.Neg(q)), curve.Zero()) || !curve.Same(curve.Add(curve.Neg(q), q), curve.Zero()) || !curve.Same(curve.Neg(curve.Neg(q)), q) || !curve.Same(curve.Add(q, curve.Zero()), q) {
			t.Errorf("(%d, %d)", a.x, a.y)
		}
	}
	want := curve.Add(l...)
	for range 10 {
		r.Shuffle(len(l), func(i, j int) { l[i], l[j] = l[j], l[i] })
		cut := r.Intn(len(l) + 1)
		if !curve.Same(curve.Add(l...), want) || !curve.Same(curve.Add(curve.Add(l[:cut]...), curve.Add(l[cut:]...)), want) {
			t.Error("order")
		}
	}
}

func TestP20_3TheBaseComesToZero(t *testing.T) {
	adder := curve.NewAdder()
	n := wide.Num{0x5812631a5cf5d3ed, 0x14def9dea2f79cd6, 0, 1 << 60}
	q := curve.Zero()
	for i := n.Len() - 1; i >= 0; i-- {
		if q = curve.Double(q); n.Bit(i) == 1 {
			q = adder.Add(q, curve.Base())
		}
		if i > 0 && curve.Same(q, curve.Zero()) {
			t.Error("too soon")
		}
	}
	if !curve.Same(q, curve.Zero()) {
		t.Error("not at all")
	}
}
