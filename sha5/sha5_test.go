package sha5_test

import (
	"crypto/sha512"
	"encoding/hex"
	"math/rand"
	"slices"
	"strings"
	"testing"

	"sealring/sha5"
)

// text has n bytes, each unlike those next to it.
func text(n int) string {
	b := make([]byte, n)
	for i := range b {
		b[i] = byte(i*7 + i/256)
	}
	return string(b)
}

// hash is a text's, by the library.
func hash(s string) string {
	h := sha512.Sum512([]byte(s))
	return string(h[:])
}

func is(t *testing.T, what, got, want string) {
	t.Helper()
	if got != want {
		t.Errorf("%s: %x, not %x", what, got, want)
	}
}

// written is the hash of texts that are written in one go; New takes long, so that a copy of one is used.
func written(fresh *sha5.Hash, l ...string) string {
	h := fresh.Copy()
	h.Write(l...)
	return h.Sum()
}

func TestP18_1KnownHashes(t *testing.T) {
	for s, want := range map[string]string{
		"":    "cf83e1357eefb8bdf1542850d66d8007d620e4050b5715dc83f4a921d36ce9ce47d0d13c5d85f2b0ff8318d2877eec2f63b931bd47417a81a538327af927da3e",
		"abc": "ddaf35a193617abacc417349ae20413112e6fa4e89a97ea20a9eeee64b55d39a2192992a274fc1a836ba3c23a3feebbd454d4423643ce80e2a9ac94fa54ca49f",
		"abcdbcdecdefdefgefghfghighijhijkijkljklmklmnlmnomnopnopq":                                                         "204a8fc6dda82f0a0ced7beb8e08a41657c16ef468b228a8279be331a703c33596fd15c13b1b07f9aa1d3bea57789ca031ad85c7a71dd70354ec631238ca3445",
		"abcdefghbcdefghicdefghijdefghijkefghijklfghijklmghijklmnhijklmnoijklmnopjklmnopqklmnopqrlmnopqrsmnopqrstnopqrstu": "8e959b75dae313da8cf4f72814fc143f8f7779c6eb9f7fa17299aeadb6889018501d289e4900f7e4331b99dec4b5433ac7d329eeb6dd26545e96e55b874be909",
		strings.Repeat("a", 1000000): "e718483d0ce769644e2e42c7bc15b4638e1f98b13b2044285632a803afa973ebde0ff244877ea60a4cb0432ce577c31beb009c5c2c49aa2e4eadb217ad8cc09b",
	} {
		is(t, "Of", hex.EncodeToString([]byte(sha5.Of(s))), want)
	}
	is(t, "Of none", sha5.Of(), hash(""))
	is(t, "Of empty ones", sha5.Of("", "", ""), hash(""))
	is(t, "Of two", sha5.Of("a", "bc"), hash("abc"))
	is(t, "Of many", sha5.Of("", "a", "", "b", "c", ""), hash("abc"))
}

func TestP18_1EachLength(t *testing.T) {
	fresh := sha5.New()
	for n := range 600 {
		is(t, "by the length", written(fresh, text(n)), hash(text(n)))
		is(t, "of noughts", written(fresh, strings.Repeat("\x00", n)), hash(strings.Repeat("\x00", n)))
		is(t, "of ones", written(fresh, strings.Repeat("\xff", n)), hash(strings.Repeat("\xff", n)))
	}
	for _, n := range []int{4095, 4096, 65536, 1<<18 + 1} {
		is(t, "by the length", sha5.Of(text(n)), hash(text(n)))
	}
}

func TestP18_1EachBitCounts(t *testing.T) {
	fresh := sha5.New()
	s := text(260)
	for i := range 8 * len(s) {
		b := []byte(s)
		b[i/8] ^= 1 << (i % 8)
		is(t, "with a bit turned", written(fresh, string(b)), hash(string(b)))
	}
}

func TestP18_1SumMayBeGoneOnWith(t *testing.T) {
	h := sha5.New()
	var all string
	is(t, "of no bytes", h.Sum(), hash(""))
	for n := range 150 {
		s := text(n)
		h.Write(s)
		all += s
		for range 2 {
			is(t, "so far", h.Sum(), hash(all))
			if h.Len() != len(all) {
				t.Errorf("Len %d, not %d", h.Len(), len(all))
			}
		}
	}
	h.Write()
	h.Write("", "")
	is(t, "with nothing more", h.Sum(), hash(all))
}

func TestP18_1LenCountsWhatIsWritten(t *testing.T) {
	h := sha5.New()
	for _, c := range []struct {
		l    []string
		want int
	}{{nil, 0}, {[]string{""}, 0}, {[]string{"a"}, 1}, {[]string{"b", "", "cd"}, 4}, {[]string{text(123)}, 127}, {[]string{"x"}, 128}, {[]string{text(128), text(129)}, 385}} {
		h.Write(c.l...)
		if h.Len() != c.want {
			t.Errorf("%d, not %d", h.Len(), c.want)
		}
		h.Sum()
	}
}

func TestP18_1CopyGoesByItself(t *testing.T) {
	for _, n := range []int{0, 1, 127, 128, 129, 260} {
		h := sha5.New()
		h.Write(text(n))
		c := h.Copy()
		is(t, "the same", c.Sum(), h.Sum())
		h.Write("left", text(140))
		if c.Len() != n {
			t.Errorf("Len %d", c.Len())
		}
		is(t, "copy", c.Sum(), hash(text(n)))
		c.Write("right")
		is(t, "hash", h.Sum(), hash(text(n)+"left"+text(140)))
		is(t, "copy", c.Sum(), hash(text(n)+"right"))
		if h.Len() != n+144 || c.Len() != n+5 {
			t.Errorf("Len %d, %d", h.Len(), c.Len())
		}
	}
}

func TestP18_1HashesGoByThemselves(t *testing.T) {
	a, b := sha5.New(), sha5.New()
	a.Write("a")
	b.Write("b", text(200))
	a.Write("c")
	is(t, "a", a.Sum(), hash("ac"))
	is(t, "b", b.Sum(), hash("b"+text(200)))
}

func TestP18_1OfNil(t *testing.T) {
	var h *sha5.Hash
	h.Write("a", text(200))
	if h.Sum() != "" || h.Len() != 0 || h.Copy() != nil {
		t.Error(h.Sum(), h.Len(), h.Copy())
	}
}

func TestP18_1WhatIsHandedInIsNotChanged(t *testing.T) {
	l := []string{"a", "b", "spare"}
	sha5.Of(l[:2]...)
	sha5.New().Write(l[:2]...)
	if !slices.Equal(l, []string{"a", "b", "spare"}) {
		t.Error(l)
	}
}

func TestP18_2EachCutInTwo(t *testing.T) {
	fresh := sha5.New()
	for _, n := range []int{111, 112, 127, 128, 129, 256, 300} {
		s := text(n)
		for cut := range n + 1 {
			is(t, "in one call", written(fresh, s[:cut], s[cut:]), hash(s))
			h := fresh.Copy()
			h.Write(s[:cut])
			h.Write(s[cut:])
			is(t, "in two calls", h.Sum(), hash(s))
		}
	}
}

func TestP18_2AnyCuts(t *testing.T) {
	r := rand.New(rand.NewSource(18))
	fresh := sha5.New()
	for range 500 {
		s := text(r.Intn(1200))
		h := fresh.Copy()
		for at := 0; at < len(s); {
			var l []string
			for range r.Intn(4) {
				n := min(len(s)-at, r.Intn(200))
				l, at = append(l, s[at:at+n]), at+n
			}
			h.Write(l...)
		}
		is(t, "cut", h.Sum(), hash(s))
		if h.Len() != len(s) {
			t.Errorf("Len %d, not %d", h.Len(), len(s))
		}
	}
	h := fresh.Copy()
	for _, c := range []byte(text(400)) {
		h.Write(string([]byte{c}))
	}
	is(t, "byte by byte", h.Sum(), hash(text(400)))
}
