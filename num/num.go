// Package num is layer 5: see shared/doc/05-num.md.
package num

import (
	"strconv"

	"sealring/api"
)

// Fits: P5.1.
func Fits(n int64) bool { return n >= -api.MaxInt && n <= api.MaxInt }

// Show: P5.1.
func Show(n int64) string { return strconv.FormatInt(n, 10) }

// Scan: P5.2.
func Scan(t string, at int) (n int64, next int, e api.Errno) {
	first := at
	isDigit := func(c byte) bool { return c >= '0' && c <= '9' }
	if at < 0 || at > len(t) {
		e = api.ErrArg
		goto none
	}
	if at < len(t) && t[at] == '-' {
		first++
	}
	if first == len(t) {
		e = api.ErrShort
		goto none
	}
	if !isDigit(t[first]) {
		e = api.ErrForm
		goto none
	}
digits:
	for next = first; next < len(t); next++ {
		switch c := t[next]; {
		case c == '.' || c == 'e' || c == 'E':
			e = api.ErrNumber
			goto none
		case !isDigit(c):
			break digits
		case n <= api.MaxInt: // above it n stays as it is: it doesn't fit, and would overflow
			n = 10*n + int64(c-'0')
		}
	}
	if t[first] == '0' && (next > first+1 || first > at) {
		e = api.ErrNumber
		goto none
	}
	if n > api.MaxInt {
		e = api.ErrRange
		goto none
	}
	if first > at {
		n = -n
	}
	return n, next, api.OK
none:
	return 0, 0, e
}
