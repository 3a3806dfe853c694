package utf_test

import (
	"math"
	"slices"
	"strings"
	"testing"

	"sealring/api"
	"sealring/utf"
)

func isPoint(n int) bool { return n >= 0 && n <= 1114111 && (n < 55296 || n > 57343) }

// form is a code point's form, as the document's words have it.
func form(n int) string {
	rest := func(shift int) byte { return byte(128 + n>>shift&63) }
	switch {
	case n < 128:
		return string([]byte{byte(n)})
	case n < 2048:
		return string([]byte{byte(192 + n>>6), rest(0)})
	case n < 65536:
		return string([]byte{byte(224 + n>>12), rest(6), rest(0)})
	}
	return string([]byte{byte(240 + n>>18), rest(12), rest(6), rest(0)})
}

// forms are all forms, and what they stand for.
func forms() map[string]rune {
	m := map[string]rune{}
	for n := range 1114112 {
		if isPoint(n) {
			m[form(n)] = rune(n)
		}
	}
	return m
}

// none tells what is wrong if Next tells more than that there is no code point.
func none(t *testing.T, s string, at int) {
	t.Helper()
	if r, n, ok := utf.Next(s, at); r != 0 || n != 0 || ok {
		t.Errorf("Next(%q, %d): %d, %d, %v", s, at, r, n, ok)
	}
}

func TestP3_1PutAndNextOfEachNumber(t *testing.T) {
	for n := -300; n < 1114112+300; n++ {
		s, e := utf.Put(rune(n))
		if !isPoint(n) {
			if s != "" || e != api.ErrRange {
				t.Fatalf("Put(%d): %q, %d", n, s, e)
			}
			continue
		}
		if s != form(n) || e != api.OK {
			t.Fatalf("Put(%d): %q, %d, not %q", n, s, e, form(n))
		}
		if r, size, ok := utf.Next("\xff"+s+"\x80", 1); r != rune(n) || size != len(s) || !ok {
			t.Fatalf("Next of %d: %d, %d, %v", n, r, size, ok)
		}
	}
}

func TestP3_1PutTakesAsManyAsThereAre(t *testing.T) {
	for _, c := range []struct {
		l    []rune
		want string
		e    api.Errno
	}{
		{nil, "", api.OK}, {[]rune{233}, "\xc3\xa9", api.OK}, {[]rune{0}, "\x00", api.OK}, {[]rune{98, 97, 0x1f600, 0x20ac, 0xfffd}, "ba\xf0\x9f\x98\x80\xe2\x82\xac\xef\xbf\xbd", api.OK},
		{[]rune{0xd800}, "", api.ErrRange}, {[]rune{97, 0xdfff, 97}, "", api.ErrRange}, {[]rune{97, -1}, "", api.ErrRange}, {[]rune{0x110000, 97}, "", api.ErrRange}, {[]rune{math.MinInt32}, "", api.ErrRange}, {[]rune{math.MaxInt32}, "", api.ErrRange}, {[]rune{0xd7ff, 0xe000, 0x10ffff}, "\xed\x9f\xbf\xee\x80\x80\xf4\x8f\xbf\xbf", api.OK},
	} {
		if got, e := utf.Put(c.l...); got != c.want || e != c.e {
			t.Errorf("Put(%v): %q, %d", c.l, got, e)
		}
	}
}

func TestP3_1NextOfPlacesThatAreNone(t *testing.T) {
	for _, at := range []int{-1, 2, 3, math.MinInt, math.MaxInt} {
		none(t, "ab", at)
	}
	none(t, "", 0)
	none(t, "\xc3\xa9", 1)
	none(t, "\xef\xbf\xbd", 1)
	if r, n, ok := utf.Next("a\xc3\xa9", 1); r != 233 || n != 2 || !ok {
		t.Error(r, n, ok)
	}
}

func TestP3_1NextOfUnlikeBytes(t *testing.T) {
	for _, s := range []string{"\x80", "\xbf", "\xc0\x80", "\xc1\xbf", "\xc3", "\xc3a", "\xc3\xc3", "\xe0\x9f\xbf", "\xe0\x80\x80", "\xe2\x82", "\xe2\x82a", "\xe2a\x82", "\xed\xa0\x80", "\xed\xbf\xbf", "\xf0\x8f\xbf\xbf", "\xf0\x80\x80\x80", "\xf0\x9f\x98", "\xf0\x9f\x98a", "\xf4\x90\x80\x80", "\xf5\x80\x80\x80", "\xf8\x88\x80\x80\x80", "\xfe", "\xff"} {
		none(t, s, 0)
	}
}

func TestP3_1NextOfAllBytes(t *testing.T) {
	m := forms()
	edges := []byte{0, 'a', 0x7f, 0x80, 0x8f, 0x90, 0x9f, 0xa0, 0xbf, 0xc0, 0xff}
	look := func(s string) {
		for n := 1; n <= len(s); n++ {
			if r, ok := m[s[:n]]; ok {
				if got, size, ok := utf.Next(s, 0); got != r || size != n || !ok {
					t.Fatalf("Next(%q): %d, %d, %v", s, got, size, ok)
				}
				return
			}
		}
		none(t, s, 0)
	}
	for i := range 65536 {
		s := string([]byte{byte(i >> 8), byte(i)})
		look(s[:1])
		look(s)
		for _, c := range edges {
			look(s + string([]byte{c}))
			for _, d := range edges {
				look(s + string([]byte{c, d}))
			}
		}
	}
}

func TestP3_2AllGoesUpToTheFirstPlaceWithNone(t *testing.T) {
	for _, c := range []struct {
		s      string
		places []int
		runes  []rune
		valid  bool
	}{
		{"", nil, nil, true},
		{"a\xc3\xa9\xe2\x82\xac\xf0\x9f\x98\x80b", []int{0, 1, 3, 6, 10}, []rune{97, 233, 0x20ac, 0x1f600, 98}, true},
		{"ab\x80cd", []int{0, 1}, []rune{97, 98}, false},
		{"\xc0\x80", nil, nil, false},
		{"a\xed\xa0\x80", []int{0}, []rune{97}, false},
		{"a\xc3", []int{0}, []rune{97}, false},
		{"\xef\xbf\xbd\x00", []int{0, 3}, []rune{0xfffd, 0}, true},
		{"a\xff", []int{0}, []rune{97}, false},
	} {
		seq := utf.All(c.s)
		for range 2 { // gone through again it tells the same
			var places []int
			var runes []rune
			for at, r := range seq {
				places, runes = append(places, at), append(runes, r)
			}
			if !slices.Equal(places, c.places) || !slices.Equal(runes, c.runes) {
				t.Errorf("All(%q): %v, %v", c.s, places, runes)
			}
		}
		if got := utf.Valid(c.s); got != c.valid {
			t.Errorf("Valid(%q): %v", c.s, got)
		}
	}
}

func TestP3_2AllMayBeLeft(t *testing.T) {
	seen := 0
	for at, r := range utf.All("abc") {
		seen++
		if at == 1 && r == 'b' {
			break
		}
	}
	if seen != 2 {
		t.Error(seen)
	}
}

func TestP3_2Compare(t *testing.T) {
	rising := []string{"", "\x00", "\x00\x00", "\x00a", "a", "a\x00", "aa", "ab", "b", "\x7f", "\x80", "\xc3\xa9", "\xef\xbf\xbf", "\xf0\x90\x80\x80", "\xff", "\xff\xff"}
	for i, a := range rising {
		for j, b := range rising {
			want := 0
			if i < j {
				want = -1
			} else if i > j {
				want = 1
			}
			if got := utf.Compare(a, b); got != want {
				t.Errorf("Compare(%q, %q): %d, not %d", a, b, got, want)
			}
		}
	}
	long := strings.Repeat("x", 1000)
	if utf.Compare(long+"a", long+"b") != -1 || utf.Compare(long, long[:999]) != 1 || utf.Compare(long, strings.Clone(long)) != 0 {
		t.Error("long ones")
	}
}

func TestP3_3ThereAndBack(t *testing.T) {
	lists := [][]rune{nil, {0}, {97}, {98, 97}, {0x7f, 0x80, 0x7ff, 0x800}, {0xffff, 0x10000, 0x10ffff}, {0xd7ff, 0xe000}, {0xfffd}, {0xfffd, 0xfffd}, {0x10000}, {0xe000}, {0xffff}}
	for _, l := range lists {
		s, e := utf.Put(l...)
		var got []rune
		for _, r := range utf.All(s) {
			got = append(got, r)
		}
		if e != api.OK || !slices.Equal(got, l) || !utf.Valid(s) {
			t.Errorf("%v: %q, %v, %d", l, s, got, e)
		}
		for _, m := range lists {
			o, _ := utf.Put(m...)
			if got := utf.Compare(s, o); got != slices.Compare(l, m) {
				t.Errorf("%v and %v: %d", l, m, got)
			}
		}
	}
}

func TestP7EveryCallEnds(t *testing.T) {
	for i := range 65536 {
		s := string([]byte{byte(i), byte(i >> 8)})
		for _, s := range []string{s, s[:1], s + s, "\xf4" + s} {
			for _, at := range []int{-1, 0, 1, len(s) - 1, len(s), len(s) + 1, math.MinInt, math.MaxInt} {
				utf.Next(s, at)
			}
			for range utf.All(s) {
			}
			utf.Valid(s)
			utf.Compare(s, s[1:])
		}
	}
	utf.Put(math.MinInt32, math.MaxInt32)
}
