package roots_test

import (
	"math"
	"math/big"
	"testing"

	"sealring/roots"
)

func TestP14_1Prime(t *testing.T) {
	var composite [8000]bool
	at := 0
	for n := 2; n < len(composite); n++ {
		if composite[n] {
			continue
		}
		if at < 1000 {
			if got := roots.Prime(at); got != n {
				t.Fatalf("Prime(%d): %d, not %d", at, got, n)
			}
		}
		at++
		for m := 2 * n; m < len(composite); m += n {
			composite[m] = true
		}
	}
	if at < 1000 {
		t.Fatal("too few to hold it against")
	}
	for at, n := range map[int]int{0: 2, 1: 3, 2: 5, 3: 7, 4: 11, 63: 311, 79: 409, 999: 7919} {
		if got := roots.Prime(at); got != n {
			t.Errorf("Prime(%d): %d, not %d", at, got, n)
		}
	}
}

func TestP14_1PrimeOfOthers(t *testing.T) {
	for _, at := range []int{-1, -2, 1000, 1001, 1 << 20, math.MinInt, math.MaxInt} {
		if got := roots.Prime(at); got != 0 {
			t.Errorf("Prime(%d): %d", at, got)
		}
	}
}

// scaled is n times 2^bits.
func scaled(n int, bits uint) *big.Int { return new(big.Int).Lsh(big.NewInt(int64(n)), bits) }

// holds: is whole times 2^64 and rest, to a power, at most n times 2^(64 power), and with 1 more above?
func holds(n, whole int, rest uint64, power int64) bool {
	x := new(big.Int).Add(scaled(whole, 64), new(big.Int).SetUint64(rest))
	limit := scaled(n, uint(64*power))
	raise := func(x *big.Int) *big.Int { return new(big.Int).Exp(x, big.NewInt(power), nil) }
	return raise(x).Cmp(limit) <= 0 && raise(x.Add(x, big.NewInt(1))).Cmp(limit) > 0
}

func TestP14_2EachSquareAndCube(t *testing.T) {
	square, cube := 1, 1 // the roots, rounded down
	for n := 1; n <= 65535; n++ {
		if (square+1)*(square+1) <= n {
			square++
		}
		if (cube+1)*(cube+1)*(cube+1) <= n {
			cube++
		}
		if got := roots.Square(n); !holds(n, square, got, 2) {
			t.Fatalf("Square(%d): %x", n, got)
		}
		if got := roots.Cube(n); !holds(n, cube, got, 3) {
			t.Fatalf("Cube(%d): %x", n, got)
		}
	}
}

func TestP14_2ByHand(t *testing.T) {
	for n, want := range map[int]uint64{2: 0x6a09e667f3bcc908, 3: 0xbb67ae8584caa73b, 5: 0x3c6ef372fe94f82b, 19: 0x5be0cd19137e2179} {
		if got := roots.Square(n); got != want {
			t.Errorf("Square(%d): %x", n, got)
		}
	}
	for n, want := range map[int]uint64{2: 0x428a2f98d728ae22, 3: 0x7137449123ef65cd, 311: 0xc67178f2e372532b, 409: 0x6c44198c4a475817} {
		if got := roots.Cube(n); got != want {
			t.Errorf("Cube(%d): %x", n, got)
		}
	}
}

func TestP14_2OfOthers(t *testing.T) {
	for _, n := range []int{0, -1, -2, -4, -8, 65536, 65537, 1 << 20, 1<<32 + 2, math.MinInt, math.MaxInt} {
		if s, c := roots.Square(n), roots.Cube(n); s != 0 || c != 0 {
			t.Errorf("of %d: %x, %x", n, s, c)
		}
	}
}

func TestP14_3NothingStandsBehindThePoint(t *testing.T) {
	for i := 1; i <= 255; i++ {
		if got := roots.Square(i * i); got != 0 {
			t.Errorf("Square(%d): %x", i*i, got)
		}
		if i*i < 65535 && roots.Square(i*i+1) == 0 {
			t.Errorf("Square(%d)", i*i+1)
		}
	}
	for i := 1; i <= 40; i++ {
		if got := roots.Cube(i * i * i); got != 0 {
			t.Errorf("Cube(%d): %x", i*i*i, got)
		}
		if roots.Cube(i*i*i+1) == 0 {
			t.Errorf("Cube(%d)", i*i*i+1)
		}
	}
}

func TestP7EveryCallEnds(t *testing.T) {
	for i := range 64 {
		for _, n := range []int{1 << i, 1<<i - 1, 1<<i + 1, -1 << i} {
			roots.Prime(n)
			roots.Square(n)
			roots.Cube(n)
		}
	}
}
