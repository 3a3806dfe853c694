package block_test

import (
	"math"
	"math/big"
	"slices"
	"strings"
	"testing"

	"sealring/block"
)

// text has n bytes, each unlike those next to it.
func text(n int) string {
	b := make([]byte, n)
	for i := range b {
		b[i] = byte(i*7 + i/256)
	}
	return string(b)
}

// blocks are the whole ones of s, and what is left.
func blocks(s string, size int) ([]string, string) {
	var l []string
	for len(s) >= size {
		l, s = append(l, s[:size]), s[size:]
	}
	return l, s
}

func TestP16_1NewTakesSizesFrom1To256(t *testing.T) {
	for _, size := range []int{0, -1, 257, 258, math.MinInt, math.MaxInt} {
		if block.New(size) != nil {
			t.Errorf("New(%d)", size)
		}
	}
	for size := 1; size <= 256; size++ {
		b := block.New(size)
		if b == nil || b.Rest() != "" || b.Len() != 0 {
			t.Fatalf("New(%d): %v", size, b)
		}
		s := text(3*size + size/2)
		want, rest := blocks(s, size)
		if got := b.Write(s); !slices.Equal(got, want) || b.Rest() != rest || b.Len() != len(s) {
			t.Errorf("size %d: %q, %q, %d", size, got, b.Rest(), b.Len())
		}
	}
}

func TestP16_1WriteTellsTheBlocksThatAreFull(t *testing.T) {
	b := block.New(4)
	for _, c := range []struct {
		l, want []string
		rest    string
		n       int
	}{
		{[]string{"abc", "defgh"}, []string{"abcd", "efgh"}, "", 8},
		{nil, nil, "", 8},
		{[]string{""}, nil, "", 8},
		{[]string{"i"}, nil, "i", 9},
		{[]string{"", "jk", ""}, nil, "ijk", 11},
		{nil, nil, "ijk", 11},
		{[]string{"l"}, []string{"ijkl"}, "", 12},
		{[]string{"m", "n", "o", "p", "q"}, []string{"mnop"}, "q", 17},
		{[]string{"rstuvwxyz"}, []string{"qrst", "uvwx"}, "yz", 26},
		{[]string{"\x00\xff\xc0"}, []string{"yz\x00\xff"}, "\xc0", 29},
	} {
		if got := b.Write(c.l...); !slices.Equal(got, c.want) || b.Rest() != c.rest || b.Len() != c.n {
			t.Errorf("%q: %q, %q, %d", c.l, got, b.Rest(), b.Len())
		}
	}
}

func TestP16_1WhatWasToldStays(t *testing.T) {
	b := block.New(3)
	l := b.Write("abcde")
	rest := b.Rest()
	b.Write("fghijklmno")
	if !slices.Equal(l, []string{"abc"}) || rest != "de" {
		t.Error(l, rest)
	}
	parts := []string{"x", "y", "z", "w"}
	b.Write(parts[:2]...)
	if !slices.Equal(parts, []string{"x", "y", "z", "w"}) {
		t.Error(parts)
	}
}

func TestP16_1CopyGoesByItself(t *testing.T) {
	b := block.New(4)
	b.Write("abcdef")
	c := b.Copy()
	if c == b || c.Rest() != "ef" || c.Len() != 6 {
		t.Fatal(c.Rest(), c.Len())
	}
	if got := b.Write("gh1"); !slices.Equal(got, []string{"efgh"}) || c.Rest() != "ef" || c.Len() != 6 {
		t.Error(got, c.Rest(), c.Len())
	}
	if got := c.Write("XYZW"); !slices.Equal(got, []string{"efXY"}) || b.Rest() != "1" || b.Len() != 9 || c.Rest() != "ZW" || c.Len() != 10 {
		t.Error(got, b.Rest(), c.Rest())
	}
}

func TestP16_1OfANilBuffer(t *testing.T) {
	var b *block.Buffer
	if len(b.Write("abc", "d")) != 0 || len(b.Write()) != 0 || b.Rest() != "" || b.Len() != 0 || b.Copy() != nil {
		t.Error("nil")
	}
}

func TestP16_2PadFillsUpToWholeBlocks(t *testing.T) {
	ns := []int{1<<31 - 1, 1 << 32, 1<<40 - 1, 1 << 40}
	for n := range 600 {
		ns = append(ns, n)
	}
	for _, size := range []int{16, 17, 31, 32, 64, 100, 128, 255, 256} {
		for width := 8; width <= 16; width++ {
			for _, n := range ns {
				p := block.Pad(n, size, width)
				noughts := len(p) - 1 - width
				if (n+len(p))%size != 0 || noughts < 0 || noughts >= size {
					t.Fatalf("Pad(%d, %d, %d): %d bytes", n, size, width, len(p))
				}
				told := new(big.Int).SetBytes([]byte(p[len(p)-width:]))
				if p[0] != 128 || p[1:1+noughts] != strings.Repeat("\x00", noughts) || told.Cmp(big.NewInt(8*int64(n))) != 0 {
					t.Fatalf("Pad(%d, %d, %d): %q", n, size, width, p)
				}
			}
		}
	}
}

func TestP16_2PadByHand(t *testing.T) {
	if p := block.Pad(3, 64, 8); p != "\x80"+strings.Repeat("\x00", 59)+"\x18" {
		t.Errorf("%q", p)
	}
	if p := block.Pad(55, 64, 8); p != "\x80\x00\x00\x00\x00\x00\x00\x01\xb8" {
		t.Errorf("%q", p)
	}
	if p := block.Pad(56, 64, 8); len(p) != 72 {
		t.Errorf("%q", p)
	}
	if p := block.Pad(1<<40, 16, 8); p != "\x80\x00\x00\x00\x00\x00\x00\x00\x00\x00\x08\x00\x00\x00\x00\x00" {
		t.Errorf("%q", p)
	}
}

func TestP16_2PadOfOthersIsEmpty(t *testing.T) {
	for _, c := range [][3]int{
		{-1, 64, 8}, {math.MinInt, 64, 8}, {1<<40 + 1, 64, 8}, {math.MaxInt, 64, 8},
		{3, 15, 8}, {3, 0, 8}, {3, -64, 8}, {3, 257, 8}, {3, math.MaxInt, 8}, {3, math.MinInt, 8},
		{3, 64, 7}, {3, 64, 0}, {3, 64, -8}, {3, 64, 17}, {3, 64, math.MaxInt}, {3, 64, math.MinInt},
	} {
		if p := block.Pad(c[0], c[1], c[2]); p != "" {
			t.Errorf("Pad(%v): %q", c, p)
		}
	}
}

func TestP16_3HoweverBytesAreCut(t *testing.T) {
	s := text(700)
	for _, size := range []int{1, 2, 3, 16, 63, 64, 128, 255, 256} {
		want, rest := blocks(s, size)
		for step := 1; step <= len(s); step += 1 + step/3 {
			parts, last := blocks(s, step)
			parts = append(parts, last)
			one, each := block.New(size), block.New(size)
			got := one.Write(parts...)
			var gone []string
			for _, p := range parts {
				gone = append(gone, each.Write(p)...)
			}
			if !slices.Equal(got, want) || !slices.Equal(gone, want) || one.Rest() != rest || each.Rest() != rest || each.Len() != len(s) || one.Len() != len(s) {
				t.Fatalf("size %d, by %d: %q", size, step, got)
			}
			if strings.Join(gone, "")+each.Rest() != s {
				t.Fatalf("size %d, by %d: put together they are others", size, step)
			}
		}
	}
}

func TestP7EveryCallEnds(t *testing.T) {
	odd := []int{math.MinInt, -257, -1, 0, 1, 7, 8, 15, 16, 17, 255, 256, 257, 1 << 40, 1<<40 + 1, math.MaxInt}
	for _, n := range odd {
		b := block.New(n)
		b.Write(text(1000), "", text(7))
		b.Copy().Write(nil...)
		b.Rest()
		b.Len()
		for _, size := range odd {
			for _, width := range odd {
				block.Pad(n, size, width)
			}
		}
	}
}
