package bound_test

import (
	"math"
	"testing"

	"sealring/bound"
)

const most = 1 << 40

// log is what the document's words have.
func log(n int) int {
	many := 0
	for n > 1 {
		n /= 2
		many++
	}
	return many
}

func TestP12_1Log(t *testing.T) {
	for n, want := range map[int]int{1: 0, 2: 1, 3: 1, 4: 2, 7: 2, 8: 3, 9: 3, 15: 3, 16: 4, most - 1: 39, most: 40, 1<<62 - 1: 61, 1 << 62: 62, math.MaxInt: 62,
		0: 0, -1: 0, -2: 0, -8: 0, math.MinInt: 0} {
		if got := bound.Log(n); got != want {
			t.Errorf("Log(%d): %d, not %d", n, got, want)
		}
	}
	for n := range 5000 {
		if got := bound.Log(n); got != log(n) {
			t.Errorf("Log(%d): %d", n, got)
		}
	}
}

func TestP12_1Steps(t *testing.T) {
	for n, want := range map[int]int{0: 4, 1: 16, 2: 24, 3: 48, 6: 84, 7: 128, 8: 144, most - 1: 4 * most * 41, most: 4 * (most + 1) * 41,
		most + 1: 0, 2 * most: 0, -1: 0, -8: 0, math.MaxInt: 0, math.MinInt: 0} {
		if got := bound.Steps(n); got != want {
			t.Errorf("Steps(%d): %d, not %d", n, got, want)
		}
	}
	for n := range 5000 {
		if got := bound.Steps(n); got != 4*(n+1)*(1+log(n+1)) {
			t.Errorf("Steps(%d): %d", n, got)
		}
	}
}

func TestP12_2StepsOfLongerTexts(t *testing.T) {
	holds := func(n int) {
		if bound.Steps(n+1) < bound.Steps(n) {
			t.Errorf("of %d and 1 fewer than of %d", n, n)
		}
		if bound.Steps(2*n+1) != 2*bound.Steps(n)+8*(n+1) {
			t.Errorf("of twice %d and 1: %d", n, bound.Steps(2*n+1))
		}
	}
	for n := range 5000 {
		holds(n)
	}
	for _, n := range []int{1 << 20, 1<<20 - 1, 1<<31 - 1, 1 << 31, most/2 - 1} {
		holds(n)
	}
}

func TestP7EveryCallEnds(t *testing.T) {
	for i := range 64 {
		for _, n := range []int{1 << i, 1<<i - 1, -1 << i, -1<<i + 1} {
			if bound.Log(n) < 0 || bound.Steps(n) < 0 {
				t.Errorf("of %d: %d, %d", n, bound.Log(n), bound.Steps(n))
			}
		}
	}
}
