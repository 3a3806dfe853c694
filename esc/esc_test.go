package esc_test

import (
	"math"
	"regexp"
	"strconv"
	"strings"
	"testing"
	"unicode/utf8"

	"sealring/api"
	"sealring/esc"
)

func quotes(t *testing.T, s, want string) {
	t.Helper()
	if got, e := esc.Quote(s); got != want || e != api.OK || esc.Size(s) != len(want) {
		t.Errorf("Quote(%q): %q, %d, size %d; not %q", s, got, e, esc.Size(s), want)
	}
}

func reads(t *testing.T, text string, at int, s string, next int, e api.Errno) {
	t.Helper()
	if gotS, gotNext, gotE := esc.Unquote(text, at); gotS != s || gotNext != next || gotE != e {
		t.Errorf("Unquote(%q, %d): %q, %d, %d; not %q, %d, %d", text, at, gotS, gotNext, gotE, s, next, e)
	}
}

// within is what stands, between quotation marks, for a code point.
func within(r rune) string {
	switch r {
	case '"', '\\':
		return `\` + string(r)
	case 8, 9, 10, 12, 13:
		return `\` + "btn?fr"[r-8:r-7]
	}
	if r < 32 {
		return `\u00` + string("01"[r/16]) + string("0123456789abcdef"[r%16])
	}
	return string(r)
}

func TestP4_1QuoteOfEachCodePoint(t *testing.T) {
	for r := rune(0); r <= utf8.MaxRune; r++ {
		if !utf8.ValidRune(r) {
			continue
		}
		w := within(r)
		s := "a" + string(r) + "z"
		if got, e := esc.Quote(s); got != `"a`+w+`z"` || e != api.OK || esc.Size(s) != len(w)+4 {
			t.Fatalf("Quote(%q): %q, %d, size %d", s, got, e, esc.Size(s))
		}
		if r < 256 {
			quotes(t, string(r), `"`+w+`"`)
			quotes(t, string(r)+string(r), `"`+w+w+`"`)
			quotes(t, "\u00e9"+string(r)+"\u20ac", "\"\u00e9"+w+"\u20ac\"")
		}
	}
}

func TestP4_1QuoteByHand(t *testing.T) {
	quotes(t, "", `""`)
	quotes(t, "abc", `"abc"`)
	quotes(t, "\n", `"\n"`)
	quotes(t, "\b\t\n\f\r", `"\b\t\n\f\r"`)
	quotes(t, "\x00\x01\x07\x0b\x0e\x0f\x10\x1a\x1f", `"\u0000\u0001\u0007\u000b\u000e\u000f\u0010\u001a\u001f"`)
	quotes(t, `say "\/"`, `"say \"\\/\""`)
	quotes(t, " /\x7f\u0080\u2028\ufffd\U0010ffff", "\" /\x7f\u0080\u2028\ufffd\U0010ffff\"")
	quotes(t, strings.Repeat("\"\x01", 5000), `"`+strings.Repeat(`\"\u0001`, 5000)+`"`)
}

var invalid = []string{"\xff", "a\xff", "\xc0\x80", "\xed\xa0\x80", "\xc3", "a\"\n\xe2\x82", "\x80a", "\xf4\x90\x80\x80", "\xf8\x88\x80\x80\x80", "a\x00\xc3\x28"}

func TestP4_1QuoteRefusesWhatIsNotValid(t *testing.T) {
	for _, s := range invalid {
		if got, e := esc.Quote(s); got != "" || e != api.ErrText || esc.Size(s) != 0 {
			t.Errorf("Quote(%q): %q, %d, size %d", s, got, e, esc.Size(s))
		}
	}
}

func TestP4_2UnquoteTellsTheTextAndThePlaceBehind(t *testing.T) {
	reads(t, `""`, 0, "", 2, api.OK)
	reads(t, `x"a"y"`, 1, "a", 4, api.OK)
	reads(t, `"a""b"`, 0, "a", 3, api.OK)
	reads(t, `"a""b"`, 2, "", 4, api.OK)
	reads(t, "\xff\x00\"a\"\xff\x00", 2, "a", 5, api.OK)
	reads(t, `"\"\\\/\b\t\n\f\r"`, 0, "\"\\/\b\t\n\f\r", 18, api.OK)
	reads(t, `"/\u002f"`, 0, "//", 9, api.OK)
	reads(t, "\" \x7f\u00e9\u2028\ufffd\U0001f600\"", 0, " \x7f\u00e9\u2028\ufffd\U0001f600", 16, api.OK)
	reads(t, `"\u0000\u001F\u0022\u005c"`, 0, "\x00\x1f\"\\", 26, api.OK)
	reads(t, `"\ud83d\ude00\uD83D\uDE00"`, 0, "\U0001f600\U0001f600", 26, api.OK)
	reads(t, `"\ud800\udc00\udbff\udfff\ud7ff\ue000\uffff"`, 0, "\U00010000\U0010ffff\ud7ff\ue000\uffff", 44, api.OK)
	reads(t, `"\u00411"`, 0, "A1", 9, api.OK)
	reads(t, `"\\u0041"`, 0, `\u0041`, 9, api.OK)
	reads(t, `"\\"`, 0, `\`, 4, api.OK)
	reads(t, `"\\n"`, 0, `\n`, 5, api.OK)
	reads(t, `"`+strings.Repeat(`\n\u00e9x`, 10000)+`",`, 0, strings.Repeat("\n\u00e9x", 10000), 90002, api.OK)
}

func TestP4_2UnquoteOfEachNumber(t *testing.T) {
	for n := range 65536 {
		four := strconv.FormatInt(int64(n), 16)
		four = strings.Repeat("0", 4-len(four)) + four
		for _, four := range []string{four, strings.ToUpper(four)} {
			if n >= 0xd800 && n <= 0xdfff {
				if n >= 0xdc00 {
					reads(t, `"\u`+four, 0, "", 0, api.ErrEscape)
				} else {
					reads(t, `"\u`+four, 0, "", 0, api.ErrShort)
				}
				reads(t, `"\u`+four+`"`, 0, "", 0, api.ErrEscape)
				reads(t, `"\u`+four+`\u0041"`, 0, "", 0, api.ErrEscape)
				reads(t, `"\u`+four+`\ud800"`, 0, "", 0, api.ErrEscape)
				continue
			}
			reads(t, `"\u`+four+`"`, 0, string(rune(n)), 8, api.OK)
			if n < 0xd800 || n > 0xdfff {
				reads(t, `"\ud83d\u`+four+`"`, 0, "", 0, api.ErrEscape)
			}
		}
	}
}

func TestP4_2UnquoteOfPairs(t *testing.T) {
	hex := func(n rune) string { return `\u` + strconv.FormatInt(int64(n), 16) }
	for high := rune(0xd800); high <= 0xdbff; high += 31 {
		for low := rune(0xdc00); low <= 0xdfff; low++ {
			want := string(0x10000 + (high-0xd800)<<10 + low - 0xdc00)
			reads(t, `"`+hex(high)+hex(low)+`"`, 0, want, 14, api.OK)
		}
		for _, low := range []rune{0xd800, 0xdbff, 0xe000, 0xffff} {
			reads(t, `"`+hex(high)+hex(low)+`"`, 0, "", 0, api.ErrEscape)
		}
	}
	reads(t, `"\udbff\udfff"`, 0, "\U0010ffff", 14, api.OK)
	reads(t, `"\ud83d\ude00\ude00"`, 0, "", 0, api.ErrEscape)
}

func TestP4_2UnquoteOfPlaces(t *testing.T) {
	for _, at := range []int{-1, 5, 6, math.MinInt, math.MaxInt} {
		reads(t, `"ab"`, at, "", 0, api.ErrArg)
	}
	reads(t, "", -1, "", 0, api.ErrArg)
	reads(t, "", 1, "", 0, api.ErrArg)
	reads(t, "", 0, "", 0, api.ErrShort)
	reads(t, `"ab"`, 4, "", 0, api.ErrShort)
	reads(t, `"ab"`, 3, "", 0, api.ErrShort)
	reads(t, `"ab"`, 1, "", 0, api.ErrForm)
	reads(t, `ab`, 0, "", 0, api.ErrForm)
	reads(t, "'ab'", 0, "", 0, api.ErrForm)
	reads(t, "\xff", 0, "", 0, api.ErrForm)
	reads(t, "\x00", 0, "", 0, api.ErrForm)
	reads(t, `\"`, 0, "", 0, api.ErrForm)
	reads(t, ` ""`, 0, "", 0, api.ErrForm)
}

func TestP4_2UnquoteTellsTheFirstThatIsMet(t *testing.T) {
	for s, e := range map[string]api.Errno{
		`"`: api.ErrShort, `"a`: api.ErrShort, `"a\`: api.ErrShort, `"\"`: api.ErrShort, `"\\\"`: api.ErrShort,
		`"\u`: api.ErrShort, `"\u0`: api.ErrShort, `"\u00`: api.ErrShort, `"\u00e`: api.ErrShort, `"\u00e9`: api.ErrShort,
		`"\ud`: api.ErrShort, `"\udc0`: api.ErrShort, `"\ud83d`: api.ErrShort, `"\ud83d\`: api.ErrShort, `"\ud83d\u`: api.ErrShort, `"\ud83d\u0`: api.ErrShort, `"\ud83d\u004`: api.ErrShort, `"\ud83d\ude0`: api.ErrShort, `"\ud83d\ude00`: api.ErrShort,
		`"\x"`: api.ErrEscape, `"\U0041"`: api.ErrEscape, `"\N"`: api.ErrEscape, `"\'"`: api.ErrEscape, `"\0"`: api.ErrEscape, `"\a"`: api.ErrEscape, `"\v"`: api.ErrEscape, "\"\\\n\"": api.ErrEscape, "\"\\\xff": api.ErrEscape, "\"\\\u00e9\"": api.ErrEscape, "\"\\\x00": api.ErrEscape, "\"\\\x08\"": api.ErrEscape,
		`"\u"`: api.ErrEscape, `"\u00g0"`: api.ErrEscape, `"\u004"`: api.ErrEscape, `"\u004 1"`: api.ErrEscape, `"\u-041"`: api.ErrEscape, `"\u+041"`: api.ErrEscape, `"\ug`: api.ErrEscape, `"\u0041\ug"`: api.ErrEscape, "\"\\u00\xc3\xa9\"": api.ErrEscape, "\"\\u00\x01": api.ErrEscape, `"\u00@0"`: api.ErrEscape, `"\u00G0"`: api.ErrEscape, "\"\\u00`0\"": api.ErrEscape, `"\u00/0"`: api.ErrEscape, `"\u00:0"`: api.ErrEscape,
		`"\udc00`: api.ErrEscape, `"\udfff"`: api.ErrEscape, `"\udc00\ud800"`: api.ErrEscape, `"\ud83d"`: api.ErrEscape, `"\ud83dx`: api.ErrEscape, `"\ud83d\"`: api.ErrEscape, `"\ud83d\n`: api.ErrEscape, `"\ud83d\ug`: api.ErrEscape, `"\ud83d\u0041`: api.ErrEscape, `"\ud83d\ud83d\ude00"`: api.ErrEscape, "\"\\ud83d\xff": api.ErrEscape, "\"\\ud83d\x01": api.ErrEscape, `"\ud83dude00"`: api.ErrEscape, `"\ud83d\\ude00"`: api.ErrEscape, `"\ud83d/ude00"`: api.ErrEscape,
		"\"\x00\"": api.ErrForm, "\"\n\"": api.ErrForm, "\"a\tb\"": api.ErrForm, "\"\x1f": api.ErrForm, "\"\\n\x1f": api.ErrForm,
		"\"\xff\"": api.ErrText, "\"\xc3": api.ErrText, "\"\xc3\"": api.ErrText, "\"\xe2\x82\"": api.ErrText, "\"\xed\xa0\x80\"": api.ErrText, "\"a\x80": api.ErrText, "\"\xc0\x80\"": api.ErrText, "\"\\n\xf4\x90\x80\x80\"": api.ErrText,
		// of several the first one
		"\"\x01\xff\\x": api.ErrForm, "\"\xff\x01\\x": api.ErrText, "\"\\x\x01\xff": api.ErrEscape, "\"\xc3\x01": api.ErrText, "\"\xc3\\x": api.ErrText, "\"\\n\x01\\x": api.ErrForm,
	} {
		reads(t, s, 0, "", 0, e)
		reads(t, "[\xff"+s, 2, "", 0, e)
	}
	reads(t, "\"a\"\x01", 0, "a", 3, api.OK)
	reads(t, "\"a\"\xff", 0, "a", 3, api.OK)
	reads(t, `"a"\x`, 0, "a", 3, api.OK)
}

func TestP4_2UnquoteOfEachByteBehindABackslash(t *testing.T) {
	stands := map[byte]string{'"': "\"", '\\': "\\", '/': "/", 'b': "\x08", 't': "\x09", 'n': "\x0a", 'f': "\x0c", 'r': "\x0d"}
	for i := range 256 {
		c := byte(i)
		text := string([]byte{'"', '\\', c, '"'})
		if s, ok := stands[c]; ok {
			reads(t, text, 0, s, 4, api.OK)
		} else {
			reads(t, text, 0, "", 0, api.ErrEscape)
		}
		digit := strings.IndexByte("0123456789abcdefABCDEF", c) >= 0
		for at := range 4 {
			four := []byte("0041")
			four[at] = c
			_, _, e := esc.Unquote(`"\u`+string(four)+`"`, 0)
			if digit != (e == api.OK) || !digit && e != api.ErrEscape {
				t.Errorf("of %q: %d", four, e)
			}
		}
	}
}

var (
	oneSign = regexp.MustCompile(`^\\["\\/btnfr]`)
	number  = regexp.MustCompile(`^\\u[0-9a-fA-F]{4}`)
	half    = regexp.MustCompile(`^\\u[dD][89abcdefABCDEF]`)
	pair    = regexp.MustCompile(`^\\u[dD][89abAB][0-9a-fA-F]{2}\\u[dD][c-fC-F][0-9a-fA-F]{2}`)
	begun   = regexp.MustCompile(`^\\(u([0-9a-fA-F]{0,3}|[dD][89abAB][0-9a-fA-F]{2}(\\(u[0-9a-fA-F]{0,3})?)?))?$`)
)

// escape is what the document's words have of what stands at a backslash: how long it is, and what it stands for.
func escape(t string) (int, string, api.Errno) {
	value := func(at int) rune {
		n, _ := strconv.ParseUint(t[at:at+4], 16, 16)
		return rune(n)
	}
	switch {
	case oneSign.MatchString(t):
		s, _ := strconv.Unquote(`"` + strings.ReplaceAll(t[:2], `\/`, "/") + `"`)
		return 2, s, api.OK
	case pair.MatchString(t):
		return 12, string(65536 + 1024*(value(2)-0xd800) + (value(8) - 0xdc00)), api.OK
	case begun.MatchString(t):
		return 0, "", api.ErrShort
	case number.MatchString(t) && !half.MatchString(t):
		return 6, string(value(2)), api.OK
	}
	return 0, "", api.ErrEscape
}

// unquote is what the document's words have of a text from its beginning on.
func unquote(t string) (string, int, api.Errno) {
	if t == "" {
		return "", 0, api.ErrShort
	}
	if t[0] != '"' {
		return "", 0, api.ErrForm
	}
	s := ""
	for at := 1; at < len(t); {
		switch r, size := utf8.DecodeRuneInString(t[at:]); {
		case r == '"':
			return s, at + 1, api.OK
		case r == '\\':
			size, piece, e := escape(t[at:])
			if e != api.OK {
				return "", 0, e
			}
			s += piece
			at += size
		case r < 32:
			return "", 0, api.ErrForm
		case r == utf8.RuneError && size < 2:
			return "", 0, api.ErrText
		default:
			s += t[at : at+size]
			at += size
		}
	}
	return "", 0, api.ErrShort
}

// each hands on all texts of at most so many of these pieces, behind a beginning.
func each(begin string, many int, pieces []string, look func(s string)) {
	look(begin)
	if many > 0 {
		for _, p := range pieces {
			each(begin+p, many-1, pieces, look)
		}
	}
}

func TestP4_2And4_3AllShortTexts(t *testing.T) {
	look := func(text string) {
		s, next, e := unquote(text)
		reads(t, text, 0, s, next, e)
		if e == api.OK && esc.Size(s) > next {
			t.Errorf("%q is shorter than Quote of %q", text, s)
		}
	}
	each(`"`, 5, []string{`"`, `\`, "u", "d", "8", "c", "n", "x", "\xc3", "\xa9", "\x01"}, look)
	each(`"\u`, 6, []string{`"`, `\`, "u", "D", "9", "e", "0"}, look)
	each(`"\ud`, 4, []string{"7", "8", "b", "B", "c", "d", "f", "0", "\"", "g"}, look)
	each(`"\udbF0`, 6, []string{`"`, `\`, "u", "d", "C", "0"}, look)
	each(`"\uD8e2\u`, 5, []string{"d", "D", "b", "c", "F", "e", "0", `"`}, look)
}

func TestP4_3ThereAndBack(t *testing.T) {
	many := []string{"", "a", "\x00", "\x1f\x20\x7f", "\"", "\\", `\u0041`, `\\"`, "/", "\u00e9\u20ac\U0001f600", "\ufffd", "a\nb\tc\rd\be\ff", strings.Repeat("x\"\\\n\u00e9", 2000)}
	for r := rune(0); r <= utf8.MaxRune; r += 7 {
		if utf8.ValidRune(r) {
			many = append(many, string(r)+string(r%64)+"\\")
		}
	}
	for _, s := range many {
		q, e := esc.Quote(s)
		if e != api.OK {
			t.Fatalf("Quote(%q): %d", s, e)
		}
		reads(t, q, 0, s, len(q), api.OK)
		reads(t, "{"+q+`":`, 1, s, 1+len(q), api.OK)
		for _, cut := range []int{0, 1, len(q) / 2, len(q) - 1} {
			if _, next, e := esc.Unquote(q[:cut], 0); e == api.OK || next != 0 {
				t.Errorf("%q, cut at %d: %d, %d", q, cut, next, e)
			}
		}
	}
}

func TestP7EveryCallEnds(t *testing.T) {
	for i := range 65536 {
		s := string([]byte{byte(i), byte(i >> 8)})
		for _, s := range []string{s, s[:1], `"` + s, `"\` + s, `"\u` + s, `"\ud800` + s, `"` + s + `"`} {
			esc.Quote(s)
			esc.Size(s)
			for _, at := range []int{-1, 0, 1, len(s) - 1, len(s), len(s) + 1, math.MinInt, math.MaxInt} {
				esc.Unquote(s, at)
			}
		}
	}
}
