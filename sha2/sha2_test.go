package sha2_test

import (
	"crypto/sha256"
	"encoding/hex"
	"math/rand"
	"slices"
	"strings"
	"testing"

	"sealring/sha2"
)

// text has n bytes, each unlike those next to it.
func text(n int) string {
	b := make([]byte, n)
	for i := range b {
		b[i] = byte(i*7 + i/256)
	}
	return string(b)
}

// hash is a text's, by the library.
func hash(s string) string {
	h := sha256.Sum256([]byte(s))
	return string(h[:])
}

func is(t *testing.T, what, got, want string) {
	t.Helper()
	if got != want {
		t.Errorf("%s: %x, not %x", what, got, want)
	}
}

// written is the hash of texts that are written in one go; New takes long, so that a copy of one is used.
func written(fresh *sha2.Hash, l ...string) string {
	h := fresh.Copy()
	h.Write(l...)
	return h.Sum()
}

func TestP17_1KnownHashes(t *testing.T) {
	for s, want := range map[string]string{
		"":    "e3b0c44298fc1c149afbf4c8996fb92427ae41e4649b934ca495991b7852b855",
		"abc": "ba7816bf8f01cfea414140de5dae2223b00361a396177a9cb410ff61f20015ad",
		"abcdbcdecdefdefgefghfghighijhijkijkljklmklmnlmnomnopnopq":                                                         "248d6a61d20638b8e5c026930c3e6039a33ce45964ff2167f6ecedd419db06c1",
		"abcdefghbcdefghicdefghijdefghijkefghijklfghijklmghijklmnhijklmnoijklmnopjklmnopqklmnopqrlmnopqrsmnopqrstnopqrstu": "cf5b16a778af8380036ce59e7b0492370b249b11e8f07a51afac45037afee9d1",
		strings.Repeat("a", 1000000): "cdc76e5c9914fb9281a1c7e284d73e67f1809a48a497200e046d39ccc7112cd0",
	} {
		is(t, "Of", hex.EncodeToString([]byte(sha2.Of(s))), want)
	}
	is(t, "Of none", sha2.Of(), hash(""))
	is(t, "Of empty ones", sha2.Of("", "", ""), hash(""))
	is(t, "Of two", sha2.Of("a", "bc"), hash("abc"))
	is(t, "Of many", sha2.Of("", "a", "", "b", "c", ""), hash("abc"))
}

func TestP17_1EachLength(t *testing.T) {
	fresh := sha2.New()
	for n := range 400 {
		is(t, "by the length", written(fresh, text(n)), hash(text(n)))
		is(t, "of noughts", written(fresh, strings.Repeat("\x00", n)), hash(strings.Repeat("\x00", n)))
		is(t, "of ones", written(fresh, strings.Repeat("\xff", n)), hash(strings.Repeat("\xff", n)))
	}
	for _, n := range []int{4095, 4096, 65536, 1<<18 + 1} {
		is(t, "by the length", sha2.Of(text(n)), hash(text(n)))
	}
}

func TestP17_1EachBitCounts(t *testing.T) {
	fresh := sha2.New()
	s := text(130)
	for i := range 8 * len(s) {
		b := []byte(s)
		b[i/8] ^= 1 << (i % 8)
		is(t, "with a bit turned", written(fresh, string(b)), hash(string(b)))
	}
}

func TestP17_1SumMayBeGoneOnWith(t *testing.T) {
	h := sha2.New()
	var all string
	is(t, "of no bytes", h.Sum(), hash(""))
	for n := range 150 {
		s := text(n)
		h.Write(s)
		all += s
		for range 2 {
			is(t, "so far", h.Sum(), hash(all))
			if h.Len() != len(all) {
				t.Errorf("Len %d, not %d", h.Len(), len(all))
			}
		}
	}
	h.Write()
	h.Write("", "")
	is(t, "with nothing more", h.Sum(), hash(all))
}

func TestP17_1LenCountsWhatIsWritten(t *testing.T) {
	h := sha2.New()
	for _, c := range []struct {
		l    []string
		want int
	}{{nil, 0}, {[]string{""}, 0}, {[]string{"a"}, 1}, {[]string{"b", "", "cd"}, 4}, {[]string{text(59)}, 63}, {[]string{"x"}, 64}, {[]string{text(64), text(65)}, 193}} {
		h.Write(c.l...)
		if h.Len() != c.want {
			t.Errorf("%d, not %d", h.Len(), c.want)
		}
		h.Sum()
	}
}

func TestP17_1CopyGoesByItself(t *testing.T) {
	for _, n := range []int{0, 1, 63, 64, 65, 130} {
		h := sha2.New()
		h.Write(text(n))
		c := h.Copy()
		is(t, "the same", c.Sum(), h.Sum())
		h.Write("left", text(70))
		if c.Len() != n {
			t.Errorf("Len %d", c.Len())
		}
		is(t, "copy", c.Sum(), hash(text(n)))
		c.Write("right")
		is(t, "hash", h.Sum(), hash(text(n)+"left"+text(70)))
		is(t, "copy", c.Sum(), hash(text(n)+"right"))
		if h.Len() != n+74 || c.Len() != n+5 {
			t.Errorf("Len %d, %d", h.Len(), c.Len())
		}
	}
}

func TestP17_1HashesGoByThemselves(t *testing.T) {
	a, b := sha2.New(), sha2.New()
	a.Write("a")
	b.Write("b", text(100))
	a.Write("c")
	is(t, "a", a.Sum(), hash("ac"))
	is(t, "b", b.Sum(), hash("b"+text(100)))
}

func TestP17_1OfNil(t *testing.T) {
	var h *sha2.Hash
	h.Write("a", text(100))
	if h.Sum() != "" || h.Len() != 0 || h.Copy() != nil {
		t.Error(h.Sum(), h.Len(), h.Copy())
	}
}

func TestP17_1WhatIsHandedInIsNotChanged(t *testing.T) {
	l := []string{"a", "b", "spare"}
	sha2.Of(l[:2]...)
	sha2.New().Write(l[:2]...)
	if !slices.Equal(l, []string{"a", "b", "spare"}) {
		t.Error(l)
	}
}

func TestP17_2EachCutInTwo(t *testing.T) {
	fresh := sha2.New()
	for _, n := range []int{55, 56, 63, 64, 65, 128, 150} {
		s := text(n)
		for cut := range n + 1 {
			is(t, "in one call", written(fresh, s[:cut], s[cut:]), hash(s))
			h := fresh.Copy()
			h.Write(s[:cut])
			h.Write(s[cut:])
			is(t, "in two calls", h.Sum(), hash(s))
		}
	}
}

func TestP17_2AnyCuts(t *testing.T) {
	r := rand.New(rand.NewSource(17))
	fresh := sha2.New()
	for range 500 {
		s := text(r.Intn(600))
		h := fresh.Copy()
		for at := 0; at < len(s); {
			var l []string
			for range r.Intn(4) {
				n := min(len(s)-at, r.Intn(100))
				l, at = append(l, s[at:at+n]), at+n
			}
			h.Write(l...)
		}
		is(t, "cut", h.Sum(), hash(s))
		if h.Len() != len(s) {
			t.Errorf("Len %d, not %d", h.Len(), len(s))
		}
	}
	h := fresh.Copy()
	for _, c := range []byte(text(200)) {
		h.Write(string([]byte{c}))
	}
	is(t, "byte by byte", h.Sum(), hash(text(200)))
}
