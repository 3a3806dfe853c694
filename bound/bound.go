// Package bound is layer 12: see shared/doc/12-bound.md.
package bound

const most = 1 << 40 // bytes of a text that Steps takes

// Log: P12.1.
func Log(n int) int {
	many := 0
	halve := func() {
		if n > 1 {
			n /= 2
			many++
		}
	}
	for range 62 { // no int can be halved more often
		halve()
	}
	return many
}

// Steps: P12.1.
func Steps(n int) int {
	if n < 0 || n > most {
		return 0
	}
	return 4 * (n + 1) * (1 + Log(n+1))
}
