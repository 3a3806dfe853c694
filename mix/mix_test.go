package mix_test

import (
	"math"
	"math/bits"
	"math/rand"
	"slices"
	"testing"

	"sealring/mix"
)

// words are some of which every bit is 1 somewhere and 0 elsewhere.
func words[T mix.Word]() []T {
	all := ^T(0)
	l := []T{0, 1, 2, 5, 12, all, all - 1, all / 3, all / 5, all>>1 + 1}
	r := rand.New(rand.NewSource(1))
	for range 10 {
		l = append(l, T(r.Uint64()))
	}
	return l
}

// right turns bit by bit, as the document's words have it.
func right[T mix.Word](x T, n, size int) T {
	var out T
	for i := range size {
		to := ((i-n)%size + size) % size
		out |= x >> i & 1 << to
	}
	return out
}

func turnsBothWays[T mix.Word](t *testing.T, size int) {
	for _, x := range words[T]() {
		for n := -3*size - 1; n <= 3*size+1; n++ {
			if got, want := mix.Right(x, n), right(x, n, size); got != want {
				t.Fatalf("Right(%x, %d): %x, not %x", x, n, got, want)
			}
		}
		// both bounds are multiples of the size, or one less
		if mix.Right(x, math.MinInt) != x || mix.Right(x, math.MaxInt) != right(x, size-1, size) || mix.Right(x, math.MinInt+1) != right(x, 1, size) {
			t.Errorf("Right(%x) by the bounds", x)
		}
	}
}

func TestP15_1Right(t *testing.T) {
	turnsBothWays[uint32](t, 32)
	turnsBothWays[uint64](t, 64)
	if mix.Right(uint32(1), 1) != 2147483648 || mix.Right(uint64(1), 1) != 1<<63 || mix.Right(uint32(5), 0) != 5 || mix.Right(uint32(1), -1) != 2 || mix.Right(uint64(1<<63), -1) != 1 {
		t.Error("by hand")
	}
	if mix.Right(uint32(0x12345678), 36) != 0x81234567 || mix.Right(uint64(0x0123456789abcdef), 68) != 0xf0123456789abcde {
		t.Error("by more than there are")
	}
}

func turnsAreOdd[T mix.Word](t *testing.T, size int) {
	for _, x := range words[T]() {
		for _, l := range [][]int{nil, {0}, {1}, {7, 18}, {6, 11, 25}, {28, 34, 39}, {1, 1}, {1, 1, 1}, {0, size}, {-1, size - 1, 3}, {2, 13, 22, 2, 5}, {math.MinInt, 1}} {
			var want T
			for bit := range size {
				many := 0
				for _, n := range l {
					many += int(right(x, n%size, size) >> bit & 1)
				}
				want |= T(many%2) << bit
			}
			if got := mix.Turns(x, l...); got != want {
				t.Errorf("Turns(%x, %v): %x, not %x", x, l, got, want)
			}
		}
	}
}

func TestP15_1Turns(t *testing.T) {
	turnsAreOdd[uint32](t, 32)
	turnsAreOdd[uint64](t, 64)
	if mix.Turns(uint32(7)) != 0 || mix.Turns(uint64(1), 1, 1) != 0 || mix.Turns(uint64(1), 1, 2) != 3<<62 {
		t.Error("by hand")
	}
	l := []int{1, 2, 3, 4}
	mix.Turns(uint32(9), l[:2]...)
	if !slices.Equal(l, []int{1, 2, 3, 4}) {
		t.Error(l)
	}
}

func choosesAndCounts[T mix.Word](t *testing.T, size int) {
	l := words[T]()
	for _, x := range l {
		for _, y := range l {
			for _, z := range l {
				var choose, most T
				for i := range size {
					a, b, c := x>>i&1, y>>i&1, z>>i&1
					if a == 1 {
						choose |= b << i
					} else {
						choose |= c << i
					}
					if a+b+c >= 2 {
						most |= 1 << i
					}
				}
				if got := mix.Choose(x, y, z); got != choose {
					t.Fatalf("Choose(%x, %x, %x): %x", x, y, z, got)
				}
				if got := mix.Most(x, y, z); got != most {
					t.Fatalf("Most(%x, %x, %x): %x", x, y, z, got)
				}
			}
		}
	}
}

func TestP15_2ChooseAndMost(t *testing.T) {
	choosesAndCounts[uint32](t, 32)
	choosesAndCounts[uint64](t, 64)
	if mix.Choose(uint32(12), 10, 5) != 9 || mix.Most(uint32(1), 3, 6) != 3 || mix.Most(uint64(1), 3, 6) != 3 {
		t.Error("by hand")
	}
}

func TestP15_2SumGoesRound(t *testing.T) {
	var sum uint64
	for _, x := range words[uint64]() {
		sum, _ = bits.Add64(sum, x, 0)
	}
	if got := mix.Sum(words[uint64]()...); got != sum {
		t.Errorf("%x, not %x", got, sum)
	}
	sum = 0
	for _, x := range words[uint32]() {
		sum = (sum + uint64(x)) % (1 << 32)
	}
	if got := mix.Sum(words[uint32]()...); uint64(got) != sum {
		t.Errorf("%x, not %x", got, sum)
	}
	if mix.Sum[uint32]() != 0 || mix.Sum(uint32(7)) != 7 || mix.Sum(uint32(1<<31), 1<<31) != 0 || mix.Sum(uint64(1<<63), 1<<63, 3) != 3 || mix.Sum(uint64(1<<31), 1<<31) != 1<<32 {
		t.Error("by hand")
	}
}

func TestP15_3TurnedAllTheWay(t *testing.T) {
	for _, x := range words[uint32]() {
		if mix.Right(x, 32) != x || mix.Right(x, -32) != x || mix.Right(mix.Right(x, 13), 19) != x {
			t.Errorf("%x", x)
		}
	}
	for _, x := range words[uint64]() {
		if mix.Right(x, 64) != x || mix.Right(x, -64) != x || mix.Right(mix.Right(x, 13), 51) != x {
			t.Errorf("%x", x)
		}
	}
}

func TestP7EveryCallEnds(t *testing.T) {
	for i := range 64 {
		for _, n := range []int{1 << i, 1<<i - 1, -1 << i, -1<<i + 1} {
			mix.Right(uint32(1), n)
			mix.Right(uint64(1), n)
			mix.Turns(uint32(1), n, -n)
			mix.Turns(uint64(1), n, -n)
		}
	}
	mix.Sum[uint32](nil...)
	mix.Sum[uint64](nil...)
}
