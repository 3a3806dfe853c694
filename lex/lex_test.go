package lex_test

import (
	"math"
	"math/rand"
	"regexp"
	"slices"
	"strings"
	"testing"

	"sealring/api"
	"sealring/esc"
	"sealring/lex"
	"sealring/num"
)

type token = api.Token

// reads asks for the word at a place.
func reads(t *testing.T, s string, at int, want token, e api.Errno) {
	t.Helper()
	if got, f := lex.Next(s, at); got != want || f != e {
		t.Errorf("Next(%q, %d): %+v, %d, not %+v, %d", s, at, got, f, want, e)
	}
}

// fails asks for what is no word, from a byte on.
func fails(t *testing.T, s string, from int, e api.Errno) {
	t.Helper()
	reads(t, s, 0, token{From: from}, e)
}

var words = map[string]token{
	"{": {Kind: 1}, "}": {Kind: 2}, "[": {Kind: 3}, "]": {Kind: 4}, ",": {Kind: 5}, ":": {Kind: 6},
	"true": {Kind: 7}, "false": {Kind: 8}, "null": {Kind: 9},
	`""`: {Kind: 10}, `"ab"`: {Kind: 10, S: "ab"}, `"\u00e9\n\/"`: {Kind: 10, S: "\u00e9\n/"}, "\"\u00e9\"": {Kind: 10, S: "\u00e9"}, `" 1"`: {Kind: 10, S: " 1"}, `"true"`: {Kind: 10, S: "true"}, `"\"\\"`: {Kind: 10, S: `"\`},
	"0": {Kind: 11}, "12": {Kind: 11, N: 12}, "-7": {Kind: 11, N: -7}, "9007199254740991": {Kind: 11, N: api.MaxInt}, "-9007199254740991": {Kind: 11, N: -api.MaxInt},
}

var blanks = []string{"", " ", "\t", "\n", "\r", " \t\n\r\r\n\t "}

func TestP6_1EachWord(t *testing.T) {
	for s, want := range words {
		for _, b := range blanks {
			for _, behind := range []string{"", " ", "\n", "]", ",1", "}\xff", "\"", "{", "\x00"} {
				want.From, want.To = len(b), len(b)+len(s)
				reads(t, b+s+behind, 0, want, api.OK)
				want.From, want.To = want.From+2, want.To+2
				reads(t, `1"`+b+s+behind, 2, want, api.OK)
			}
		}
	}
}

func TestP6_1TheEnd(t *testing.T) {
	for _, b := range blanks {
		reads(t, b, 0, token{Kind: 12, From: len(b), To: len(b)}, api.OK)
		reads(t, "1"+b, 1, token{Kind: 12, From: 1 + len(b), To: 1 + len(b)}, api.OK)
		reads(t, "\xff"+b, 1+len(b), token{Kind: 12, From: 1 + len(b), To: 1 + len(b)}, api.OK)
	}
}

func TestP6_1PlacesThatThereAreNot(t *testing.T) {
	for _, s := range []string{"", " ", "[1]", "x", "  "} {
		for _, at := range []int{-1, len(s) + 1, len(s) + 2, math.MinInt, math.MaxInt} {
			reads(t, s, at, token{}, api.ErrArg)
		}
	}
}

func TestP6_1LettersInOrder(t *testing.T) {
	for _, s := range []string{"true", "false", "null"} {
		kind := words[s].Kind
		for n := 1; n < len(s); n++ {
			fails(t, s[:n], 0, api.ErrForm)
			fails(t, "  "+s[:n]+" "+s[n:], 2, api.ErrForm)
			fails(t, s[:n]+strings.ToUpper(s[n:]), 0, api.ErrForm)
			reads(t, s, n, token{From: n}, api.ErrForm)
		}
		fails(t, strings.ToUpper(s), 0, api.ErrForm)
		for _, behind := range []string{"x", s, "e", "1", `"`, "\x00", "_"} {
			reads(t, s+behind, 0, token{Kind: kind, To: len(s)}, api.OK)
		}
	}
	for _, s := range []string{"treu", "flase", "nill", "tnull", "nan", "fnull", "tfalse", "undefined"} {
		fails(t, s, 0, api.ErrForm)
	}
}

func TestP6_1WhatAWordMayBeginWith(t *testing.T) {
	for c := range 256 {
		s := string([]byte{byte(c)})
		_, e := lex.Next(s+"1", 0)
		if ok := strings.Contains("{}[],:-0123456789\t\n\r ", s); ok && s != "0" && e != api.OK || s == "0" && e != api.ErrNumber || s == `"` && e != api.ErrShort {
			t.Errorf("byte %d: %d", c, e)
		} else if !ok && s != `"` {
			fails(t, s+"1", 0, api.ErrForm)
			fails(t, " "+s, 1, api.ErrForm)
		}
	}
	for _, s := range []string{"+1", ".5", "'a'", "/", "\v1", "\f1", "\u00a01", "\x001", "\ufeff1", "//\n1", "NaN", "Infinity", "e1"} {
		fails(t, s, 0, api.ErrForm)
	}
}

func TestP6_1WrongNumbersAndTexts(t *testing.T) {
	for s, e := range map[string]api.Errno{
		"-": api.ErrShort, "-x": api.ErrForm, "--1": api.ErrForm, "- 1": api.ErrForm, "01": api.ErrNumber, "-0": api.ErrNumber, "-01": api.ErrNumber, "1.0": api.ErrNumber, "1e5": api.ErrNumber, "1E5": api.ErrNumber, "9007199254740992": api.ErrRange, "-9007199254740992": api.ErrRange, "99999999999999999999": api.ErrRange,
		`"`: api.ErrShort, `"a`: api.ErrShort, `"\`: api.ErrShort, `"\u00`: api.ErrShort, `"\x"`: api.ErrEscape, `"\ud83d"`: api.ErrEscape, "\"\n\"": api.ErrForm, "\"\x00\"": api.ErrForm, "\"\xff\"": api.ErrText, "\"\xed\xa0\x80\"": api.ErrText,
	} {
		for _, b := range blanks {
			fails(t, b+s, len(b), e)
		}
	}
}

// kindOf finds a word by a way of the tests' own: the kind is the place of the part that fits.
var kindOf = regexp.MustCompile(`^[\t\n\r ]*(?:(\{)|(\})|(\[)|(\])|(,)|(:)|(true)|(false)|(null)|("(?:[ !#-\[\]-~]|\\["\\/bfnrt]|\\u00[0-9a-fA-F]{2})*")|(-?[0-9]+)|($))`)

func TestP6_1AllShortTexts(t *testing.T) {
	signs := []string{"{", "]", " ", "\n", `"`, `\`, "n", "u", "true", "null", "00", "1", "-", ".", "\x00"}
	var look func(s string, more int)
	look = func(s string, more int) {
		got, e := lex.Next(s, 0)
		m := kindOf.FindStringSubmatchIndex(s)
		from := len(s) - len(strings.TrimLeft(s, "\t\n\r "))
		want := token{From: from}
		f := api.OK
		switch {
		case m != nil:
		case strings.HasPrefix(s[from:], "-"):
			_, _, f = num.Scan(s, from)
		case strings.HasPrefix(s[from:], `"`):
			_, _, f = esc.Unquote(s, from)
		default:
			f = api.ErrForm
		}
		for kind := 1; m != nil && kind <= 12; kind++ {
			if m[2*kind] < 0 {
				continue
			}
			want = token{Kind: kind, From: m[2*kind], To: m[2*kind+1]}
			if kind == api.TkInt {
				if want.N, want.To, f = num.Scan(s, from); f != api.OK {
					want = token{From: from}
				}
			} else if kind == api.TkText {
				want.S, _, f = esc.Unquote(s, from)
			}
		}
		if got != want || e != f {
			t.Errorf("Next(%q): %+v, %d, not %+v, %d", s, got, e, want, f)
		}
		for i := 0; i < len(signs) && more > 0; i++ {
			look(s+signs[i], more-1)
		}
	}
	look("", 4)
}

// cuts asks for all words of a text, by both ways.
func cuts(t *testing.T, s string, want []token, at int, e api.Errno) {
	t.Helper()
	got, n, f := lex.Tokens(s)
	if e != api.OK && got != nil || e == api.OK && !slices.Equal(got, want) || n != at || f != e {
		t.Errorf("Tokens(%q): %+v, %d, %d", s, got, n, f)
	}
	seq := lex.All(s)
	for range 2 {
		if l := slices.Collect(seq); !slices.Equal(l, want) {
			t.Errorf("All(%q): %+v, not %+v", s, l, want)
		}
	}
	for leave := 1; leave <= len(want); leave++ {
		seen := 0
		for w := range seq {
			if w != want[seen] {
				t.Errorf("All(%q): %+v at %d", s, w, seen)
			}
			if seen++; seen == leave {
				break
			}
		}
		if seen != leave {
			t.Errorf("All(%q): left at %d, not %d", s, seen, leave)
		}
	}
}

func TestP6_2AllWords(t *testing.T) {
	cuts(t, "", []token{{Kind: 12}}, 0, api.OK)
	cuts(t, " \n", []token{{Kind: 12, From: 2, To: 2}}, 0, api.OK)
	cuts(t, `[1, "a"]`, []token{{Kind: 3, To: 1}, {Kind: 11, From: 1, To: 2, N: 1}, {Kind: 5, From: 2, To: 3}, {Kind: 10, From: 4, To: 7, S: "a"}, {Kind: 4, From: 7, To: 8}, {Kind: 12, From: 8, To: 8}}, 0, api.OK)
	cuts(t, "}true{false:null,-3\t", []token{{Kind: 2, To: 1}, {Kind: 7, From: 1, To: 5}, {Kind: 1, From: 5, To: 6}, {Kind: 8, From: 6, To: 11}, {Kind: 6, From: 11, To: 12}, {Kind: 9, From: 12, To: 16}, {Kind: 5, From: 16, To: 17}, {Kind: 11, From: 17, To: 19, N: -3}, {Kind: 12, From: 20, To: 20}}, 0, api.OK)
	cuts(t, "truenull", []token{{Kind: 7, To: 4}, {Kind: 9, From: 4, To: 8}, {Kind: 12, From: 8, To: 8}}, 0, api.OK)
	cuts(t, `1-2"a""b"3`, []token{{Kind: 11, To: 1, N: 1}, {Kind: 11, From: 1, To: 3, N: -2}, {Kind: 10, From: 3, To: 6, S: "a"}, {Kind: 10, From: 6, To: 9, S: "b"}, {Kind: 11, From: 9, To: 10, N: 3}, {Kind: 12, From: 10, To: 10}}, 0, api.OK)
}

func TestP6_2TheFirstError(t *testing.T) {
	list := token{Kind: 3, To: 1}
	cuts(t, "tru", nil, 0, api.ErrForm)
	cuts(t, "[01", []token{list}, 1, api.ErrNumber)
	cuts(t, "[ \t1.5, x", []token{list}, 3, api.ErrNumber)
	cuts(t, `["a`, []token{list}, 1, api.ErrShort)
	cuts(t, `["\x`, []token{list}, 1, api.ErrEscape)
	cuts(t, "[1 \x0b", []token{list, {Kind: 11, From: 1, To: 2, N: 1}}, 3, api.ErrForm)
	cuts(t, "x 01", nil, 0, api.ErrForm)
	cuts(t, "  01 x", nil, 2, api.ErrNumber)
	cuts(t, "[-", []token{list}, 1, api.ErrShort)
	cuts(t, "[\"\xff\"", []token{list}, 1, api.ErrText)
	cuts(t, "[9007199254740992", []token{list}, 1, api.ErrRange)
}

func TestP6_2WordByWordAsNextTells(t *testing.T) {
	r := rand.New(rand.NewSource(6))
	signs := []string{"{", "}", "[", "]", ",", ":", "true", "false", "null", `"a"`, `"\n`, `"`, "1", "-2", "0", " ", "\n", "x", ".", "\xff"}
	for range 20000 {
		var s string
		for range r.Intn(8) {
			s += signs[r.Intn(len(signs))]
		}
		var want []token
		for at := 0; ; {
			w, e := lex.Next(s, at)
			if e != api.OK {
				cuts(t, s, want, w.From, e)
				break
			}
			want, at = append(want, w), w.To
			if w.Kind == api.TkEnd {
				cuts(t, s, want, 0, api.OK)
				break
			}
		}
	}
}

func TestP6_3BlanksBetweenWords(t *testing.T) {
	r := rand.New(rand.NewSource(63))
	var texts []string
	for s := range words {
		texts = append(texts, s)
	}
	slices.Sort(texts)
	isDigit := func(s string) bool { return s != "" && s[0] >= '0' && s[0] <= '9' }
	for range 3000 {
		bare, spread := "", blanks[r.Intn(len(blanks))]
		var want []token
		for range r.Intn(10) {
			s := texts[r.Intn(len(texts))]
			if isDigit(s) && bare != "" && isDigit(bare[len(bare)-1:]) {
				s = "," // two numbers side by side are one
			}
			bare, spread = bare+s, spread+s+blanks[r.Intn(len(blanks))]
			want = append(want, words[s])
		}
		want = append(want, token{Kind: 12})
		for _, s := range []string{bare, spread} {
			got, _, e := lex.Tokens(s)
			end := 0
			for i, w := range got {
				if strings.Trim(s[end:w.From], "\t\n\r ") != "" || w.From > w.To || i < len(want) && (w.Kind != want[i].Kind || w.N != want[i].N || w.S != want[i].S) {
					t.Errorf("%q: %+v", s, w)
				}
				end = w.To
			}
			if e != api.OK || len(got) != len(want) || end != len(s) {
				t.Errorf("%q: %+v, %d", s, got, e)
			}
		}
	}
}

func TestP7WhateverBytesCome(t *testing.T) {
	r := rand.New(rand.NewSource(7))
	for range 20000 {
		b := make([]byte, r.Intn(12))
		for i := range b {
			b[i] = byte(r.Intn(256))
		}
		s := string(b)
		for at := -1; at <= len(s)+1; at++ {
			if w, e := lex.Next(s, at); e != api.OK && (w != token{From: w.From}) || w.To > len(s) {
				t.Errorf("Next(%q, %d): %+v, %d", s, at, w, e)
			}
		}
		lex.Tokens(s)
		for range lex.All(s) {
		}
	}
	if l, _, e := lex.Tokens(strings.Repeat("[", 1000000)); len(l) != 1000001 || e != api.OK {
		t.Error(len(l), e)
	}
}
