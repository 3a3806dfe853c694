package b64_test

import (
	"encoding/base64"
	"math"
	"math/rand"
	"strings"
	"testing"

	"sealring/api"
	"sealring/b64"
)

const (
	plain = "ABCDEFGHIJKLMNOPQRSTUVWXYZabcdefghijklmnopqrstuvwxyz0123456789+/"
	inURL = "ABCDEFGHIJKLMNOPQRSTUVWXYZabcdefghijklmnopqrstuvwxyz0123456789-_"
)

func signs(url bool) string {
	if url {
		return inURL
	}
	return plain
}

// other is the language's own, that stands in for the document's words.
func other(url bool) *base64.Encoding {
	if url {
		return base64.RawURLEncoding.Strict()
	}
	return base64.RawStdEncoding.Strict()
}

func both(do func(url bool)) {
	do(false)
	do(true)
}

func random(size int) string {
	r := rand.New(rand.NewSource(int64(size)))
	b := make([]byte, size)
	for i := range b {
		b[i] = byte(r.Intn(256))
	}
	return string(b)
}

func TestP2_1EncodeKnownTexts(t *testing.T) {
	for _, c := range []struct {
		url     bool
		s, want string
	}{
		{false, "", ""}, {true, "", ""}, {false, "\xff", "/w"}, {true, "\xff", "_w"}, {false, "a", "YQ"}, {false, "ab", "YWI"}, {false, "abc", "YWJj"}, {false, "abcd", "YWJjZA"},
		{false, "\xfb\xef\xbe", "++++"}, {true, "\xfb\xef\xbe", "----"}, {false, "\x00", "AA"}, {false, "\x00\x00\x00", "AAAA"}, {true, "\xff\xff\xff", "____"}, {false, "\xff\xff\xff", "////"},
	} {
		if got := b64.Encode(c.url, c.s); got != c.want {
			t.Errorf("Encode(%v, %q): %q, not %q", c.url, c.s, got, c.want)
		}
	}
}

func TestP2_1EverySign(t *testing.T) {
	both(func(url bool) {
		for i := range 64 {
			if got := b64.Encode(url, string([]byte{byte(i << 2)})); got[0] != signs(url)[i] {
				t.Errorf("%v: sign of %d: %q", url, i, got[0])
			}
		}
	})
}

func TestP2_1EncodeOfAllSizes(t *testing.T) {
	both(func(url bool) {
		for size := range 200 {
			s := random(size)
			if got, want := b64.Encode(url, s), other(url).EncodeToString([]byte(s)); got != want || len(got) != b64.Size(size) {
				t.Errorf("Encode(%v, %q): %q, not %q", url, s, got, want)
			}
		}
	})
}

func TestP2_1Size(t *testing.T) {
	const most = 1 << 40
	for n, want := range map[int]int{0: 0, 1: 2, 2: 3, 3: 4, 4: 6, 5: 7, 6: 8, 32: 43, 64: 86, most - 1: most / 3 * 4, most: most/3*4 + 2,
		most + 1: 0, -1: 0, -3: 0, math.MaxInt: 0, math.MinInt: 0, 2 * most: 0} {
		if got := b64.Size(n); got != want {
			t.Errorf("Size(%d): %d, not %d", n, got, want)
		}
	}
}

func TestP2_2DecodeKnownTexts(t *testing.T) {
	for _, c := range []struct {
		url     bool
		t, want string
		e       api.Errno
	}{
		{false, "", "", api.OK}, {false, "/w", "\xff", api.OK}, {true, "_w", "\xff", api.OK}, {false, "YWJjZA", "abcd", api.OK},
		{false, "_w", "", api.ErrForm}, {true, "/w", "", api.ErrForm}, {true, "+A", "", api.ErrForm}, {false, "-A", "", api.ErrForm},
		{false, "/x", "", api.ErrForm}, {false, "YR", "", api.ErrForm}, {false, "YWJ", "", api.ErrForm}, {false, "YWJjZB", "", api.ErrForm}, {true, "AAAAAB", "", api.ErrForm}, {true, "AAB", "", api.ErrForm},
		{false, "A", "", api.ErrShort}, {false, "B", "", api.ErrShort}, {false, "YWJjZ", "", api.ErrShort}, {true, "_____", "", api.ErrShort},
		{false, "=", "", api.ErrForm}, {false, "YQ==", "", api.ErrForm}, {false, "YWI=", "", api.ErrForm}, {false, "YW Jj", "", api.ErrForm}, {false, "YWJj\n", "", api.ErrForm}, {false, "YWJj\r\n", "", api.ErrForm}, {false, "\x00", "", api.ErrForm}, {false, "\xc3\xa9", "", api.ErrForm}, {false, "A?AAA", "", api.ErrForm}, {false, "AAAA?", "", api.ErrForm},
	} {
		if got, e := b64.Decode(c.url, c.t); got != c.want || e != c.e {
			t.Errorf("Decode(%v, %q): %q, %d", c.url, c.t, got, e)
		}
	}
}

func TestP2_2DecodeTakesJustTheSigns(t *testing.T) {
	both(func(url bool) {
		for i := range 256 {
			c := string([]byte{byte(i)})
			want := api.ErrForm
			if strings.Contains(signs(url), c) {
				want = api.OK
			}
			for _, s := range []string{c + "AAA", "A" + c + "AA", "AAA" + c} {
				if got, e := b64.Decode(url, s); e != want || e != api.OK && got != "" {
					t.Errorf("Decode(%v, %q): %q, %d", url, s, got, e)
				}
			}
			if want == api.OK {
				want = api.ErrShort
			}
			if got, e := b64.Decode(url, c); e != want || got != "" {
				t.Errorf("Decode(%v, %q): %q, %d", url, c, got, e)
			}
		}
	})
}

func TestP2_2AllTextsOfThreeSigns(t *testing.T) {
	both(func(url bool) {
		for i := range 64 * 64 * 64 {
			s := string([]byte{signs(url)[i>>12], signs(url)[i>>6&63], signs(url)[i&63]})
			for _, u := range []string{s, s[1:]} {
				want, err := other(url).DecodeString(u)
				got, e := b64.Decode(url, u)
				if err == nil && (got != string(want) || e != api.OK) || err != nil && (got != "" || e != api.ErrForm) {
					t.Fatalf("Decode(%v, %q): %q, %d", url, u, got, e)
				}
			}
		}
	})
}

func TestP2_3ThereAndBack(t *testing.T) {
	both(func(url bool) {
		for size := range 200 {
			s := random(size)
			w := b64.Encode(url, s)
			if got, e := b64.Decode(url, w); got != s || e != api.OK {
				t.Errorf("%v %q: %q, %d", url, s, got, e)
			}
			if len(w) == 0 {
				continue
			}
			for i := range 64 { // of all texts that end otherwise, what is read is written as it was
				u := w[:len(w)-1] + string(signs(url)[i])
				if got, e := b64.Decode(url, u); e == api.OK && b64.Encode(url, got) != u {
					t.Errorf("%v %q is read as %q", url, u, got)
				}
			}
		}
	})
}

func TestP7EveryCallEnds(t *testing.T) {
	both(func(url bool) {
		for i := range 65536 {
			s := string([]byte{byte(i), byte(i >> 8)})
			for _, s := range []string{s, s[:1], s + "A", "A" + s + "A"} {
				b64.Encode(url, s)
				b64.Decode(url, s)
			}
		}
		b64.Decode(url, b64.Encode(url, random(1<<20)))
	})
}
