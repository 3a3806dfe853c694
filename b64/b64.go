// Package b64 is layer 2: see shared/doc/02-b64.md.
package b64

import "sealring/api"

const (
	plain = "ABCDEFGHIJKLMNOPQRSTUVWXYZabcdefghijklmnopqrstuvwxyz0123456789+/"
	inURL = "ABCDEFGHIJKLMNOPQRSTUVWXYZabcdefghijklmnopqrstuvwxyz0123456789-_"
)

const most = 1 << 40 // bytes that Size takes

func signs(url bool) string {
	if url {
		return inURL
	}
	return plain
}

// values tells what each byte stands for, and one more, so that 0 is left for those that are no sign.
func values(url bool) [256]byte {
	var a [256]byte
	for i, r := range signs(url) {
		a[r] = byte(i + 1)
	}
	return a
}

// regroup tells the bits of l, of each byte the from lowest ones, to by to; and what is left over: these bits, and how many they are.
func regroup(l []byte, from, to int) (out []byte, rest uint, left int) {
	shift := func(b byte) {
		rest, left = rest<<from|uint(b), left+from
		for left >= to {
			left -= to
			out = append(out, byte(rest>>left))
			rest &= 1<<left - 1
		}
	}
	for _, b := range l {
		shift(b)
	}
	return out, rest, left
}

// Size: P2.1.
func Size(n int) int {
	if n < 0 || n > most {
		return 0
	}
	return (8*n + 5) / 6
}

// Encode: P2.1.
func Encode(url bool, s string) string {
	alphabet := signs(url)
	out, rest, left := regroup([]byte(s), 8, 6)
	if left > 0 {
		out = append(out, byte(rest<<(6-left)))
	}
	for i, v := range out {
		out[i] = alphabet[v]
	}
	return string(out)
}

// Decode: P2.2.
func Decode(url bool, t string) (string, api.Errno) {
	stands := values(url)
	l := []byte(t)
	for i, b := range l {
		if stands[b] == 0 {
			return "", api.ErrForm
		}
		l[i] = stands[b] - 1
	}
	if len(t)%4 == 1 {
		return "", api.ErrShort
	}
	out, rest, _ := regroup(l, 6, 8)
	if rest != 0 {
		return "", api.ErrForm
	}
	return string(out), api.OK
}
