package recog_test

import (
	"math/rand"
	"strings"
	"testing"

	"sealring/api"
	"sealring/canon"
	"sealring/parse"
	"sealring/recog"
	"sealring/tree"
)

type node = api.Node

var forms = []string{
	"null", "true", "false", "0", "-1", "12", "9007199254740991", "-9007199254740991", `""`, `"a"`, `"\"\\/\b\t\n\f\r\u0000\u000b\u001f"`, "\"\x7f\u00e9\u2028\U0001f600\"", "[]", "{}", "[[]]", "[1,2,1]", "[null,true,false]", `{"a":1,"b":[]}`, `{"":0}`, `{"":0,"a":0}`, `{"A":1,"a":2,"aa":3}`, `[{"a":1},{"a":1}]`, `{"a":{"a":{"a":[]}},"b":{"a":1}}`, "{\"a\":1,\"\u00e9\":2,\"\uffff\":3,\"\U00010000\":4}", `{"!":0,"\"":0,"#":0}`, `{"[":0,"\\":0,"]":0}`, `{"\t":0,"\n":0,"\u000b":0,"\f":0,"\u000e":0," ":0}`,
}

func TestP11_1Forms(t *testing.T) {
	for _, s := range forms {
		for _, s := range []string{s, "[" + s + "]", "[" + s + "," + s + "]", `{"k":` + s + "}", `{"a":` + s + `,"b":` + s + "}", `[{"k":[` + s + "]},1]"} {
			if !recog.Is(s) {
				t.Errorf("%q", s)
			}
		}
	}
}

func TestP11_1NoForms(t *testing.T) {
	for _, s := range []string{
		"", " ", "x", "nul", "nulll", "tru", "truefalse", "True", "undefined", "NaN",
		"1 ", " 1", "\n1", "[ ]", "{ }", "[1, 2]", "[1 ,2]", `{"a" :1}`, `{"a": 1}`, `{"a":1, "b":2}`, `{ "a":1}`, "[]\n", "\ufeff1",
		"01", "-0", "-", "+1", "1.0", "1.", "1e0", "1E5", ".5", "9007199254740992", "-9007199254740992", "00", "--1", "1-", "0x1",
		`"`, `"a`, `"\x"`, `"\u0041"`, `"\/"`, `"\u000A"`, `"\u000a"`, `"\u001F"`, `"\u0022"`, `"\u00e9"`, `"\ud83d\ude00"`, `"\u007f"`, `"\u0008"`, "\"\n\"", "\"\xff\"", "\"\xed\xa0\x80\"", "\"\xc0\x80\"", `"a"b`, `a"`, `"a""b"`, "'a'",
		"[", "]", "[[]", "[]]", "[1", "[1,", "[1,]", "[,1]", "[,]", "[1,,2]", "[1 2]", "[1:2]", "[}", "[]1", "[][]", "[1]2", ",", ":", "1,", "1,2", "[1}",
		"{", "}", `{"a"`, `{"a":`, `{"a":1`, `{"a":1,`, `{"a":1,}`, `{,"a":1}`, `{"a"}`, `{"a",1}`, `{"a":}`, `{:1}`, `{1:1}`, `{a:1}`, `{"a"1}`, `{"a":1"b":2}`, `{"a":1:2}`, `{"a":1]`, `{]`, "{}}", "{}{}", `{"a":1,1}`, `{"a":1,,"b":2}`, `{"a"::1}`, `{null:1}`, `{[]:1}`,
		`{"b":1,"a":2}`, `{"a":1,"a":2}`, `{"":0,"":0}`, `{"a":0,"":0}`, `{"aa":1,"a":2}`, `{"a":1,"A":2}`, `{"a":1,"c":2,"b":3}`, "{\"\u00e9\":1,\"z\":2}", "{\"\U00010000\":1,\"\uffff\":2}", `{"10":0,"9":0,"2":0}`, `{"#":0,"\"":0}`, `{"]":0,"\\":0}`, `{"\u0061":1}`, `{"a":1,"\u0062":2}`, `{"\u000b":0,"\n":0}`, `{" ":0,"\n":0}`,
	} {
		if recog.Is(s) {
			t.Errorf("%q", s)
		}
	}
}

func TestP11_1HowDeep(t *testing.T) {
	for lists := 1; lists < 200; lists++ {
		for _, s := range []string{"", "1", "null", `"a"`, "[]", "{}", `{"a":1}`} {
			deep := lists
			switch s {
			case "":
			case `{"a":1}`:
				deep += 2
			default:
				deep++
			}
			l := strings.Repeat("[", lists) + s + strings.Repeat("]", lists)
			m := strings.Repeat(`{"a":`, lists-1) + "{" + strings.Repeat("}", lists)
			if recog.Is(l) != (deep <= api.MaxDepth) || recog.Is(m) != (lists <= api.MaxDepth) {
				t.Errorf("%d, %q: %v, %v", lists, s, recog.Is(l), recog.Is(m))
			}
		}
	}
	if recog.Is(strings.Repeat("[", 1000000)) || recog.Is(strings.Repeat(`{"a":`, 1000000)) {
		t.Error("too deep")
	}
	if wide := strings.Repeat(strings.Repeat("[", 63)+strings.Repeat("]", 63)+",", 100); !recog.Is("[" + wide + "1]") {
		t.Error("wide")
	}
}

func TestP11_1OfEach(t *testing.T) {
	if !recog.All() || !recog.All("1") || !recog.All("1", "[]", `{"a":1}`) || !recog.All(forms...) {
		t.Error("forms")
	}
	if recog.All("") || recog.All("1", "x") || recog.All("x", "1") || recog.All("1", " 1", "1") || recog.All("1", "") {
		t.Error("others")
	}
}

// same asks for P11.2: is a text in the form just if it is read, and is what is written of that?
func same(t *testing.T, s string) bool {
	t.Helper()
	n, _, e := parse.Parse(s)
	form, _ := canon.Encode(n)
	want := e == api.OK && form == s
	if got := recog.Is(s); got != want {
		t.Errorf("%q: %v", s, got)
	}
	return want
}

func TestP11_2AllShortTexts(t *testing.T) {
	many := 0
	look := func(begin, end string, most int, signs ...string) {
		var onward func(s string, more int)
		onward = func(s string, more int) {
			if same(t, s+end) {
				many++
			}
			for i := 0; i < len(signs) && more > 0; i++ {
				onward(s+signs[i], more-1)
			}
		}
		onward(begin, most)
	}
	look("", "", 5, "{", "}", "[", "]", ",", ":", `"`, `"a"`, `"b"`, "0", "1", "-", " ", "null")
	look("", "", 6, "[", "]", ",", "{", "}", "1", `"a":`)
	look(`{"a":1`, "}", 5, "{", "}", ",", `"a":`, `"b"`, `""`, ":", "1", "[", "]")
	look(`"`, `"`, 5, `\`, `"`, "u", "0", "1", "f", "F", "n", "/", "\n", "\x7f", "\xc3", "\xa9")
	look(`"\u00`, `"`, 2, "0", "1", "2", "8", "9", "a", "A", "b", "c", "d", "e", "f", "F")
	look("", "", 5, "0", "9", "-", ".", "e", "t", "true", "false")
	if many < 500 {
		t.Error(many)
	}
}

// grow makes some node that may be.
func grow(r *rand.Rand, deep int) node {
	texts := []string{"", "a", "b", "ab", "\u00e9", "\"", "\\", "\n", "\x01", "\U0001f600"}
	switch kind := r.Intn(5); {
	case kind == 0 || deep == 0:
		return []node{tree.Null(), tree.Bool(true), tree.Bool(false), tree.Int(0), tree.Int(-12), tree.Int(r.Int63n(api.MaxInt))}[r.Intn(6)]
	case kind == 1:
		return tree.Text(texts[r.Intn(len(texts))])
	case kind == 2:
		l := tree.List()
		for range r.Intn(4) {
			l.L = append(l.L, grow(r, deep-1))
		}
		return l
	}
	m := tree.Map()
	for range r.Intn(4) {
		m = tree.Put(m, texts[r.Intn(len(texts))], grow(r, deep-1))
	}
	return m
}

func TestP11_2FormsThatAreChanged(t *testing.T) {
	r := rand.New(rand.NewSource(11))
	for range 5000 {
		n := grow(r, 5)
		s, _ := canon.Encode(n)
		if !same(t, s) {
			t.Errorf("%q", s)
		}
		at := r.Intn(len(s) + 1)
		same(t, s[:at])
		same(t, s[at:])
		same(t, s[:at]+string("[]{},:\"\\0-1 anu\n"[r.Intn(16)])+s[at:])
		same(t, s+s[at:])
		if at < len(s) {
			same(t, s[:at]+s[at+1:])
			same(t, s[:at]+string(byte(r.Intn(256)))+s[at+1:])
		}
	}
}

func TestP11_3FormsThatBeginOthers(t *testing.T) {
	r := rand.New(rand.NewSource(113))
	seen := 0
	for range 5000 {
		s, _ := canon.Encode(grow(r, 4))
		for at := range len(s) {
			if !recog.Is(s[:at]) {
				continue
			}
			seen++
			if n, _, _ := parse.Parse(s[:at]); n.Kind != api.Int {
				t.Errorf("%q begins %q", s[:at], s)
			}
		}
	}
	if seen == 0 {
		t.Error("none")
	}
	for _, s := range forms {
		for _, more := range forms {
			if n, _, _ := parse.Parse(s); n.Kind != api.Int && recog.Is(s+more) {
				t.Errorf("%q begins %q", s, s+more)
			}
		}
	}
}

func TestP2OneForm(t *testing.T) {
	r := rand.New(rand.NewSource(2))
	var last node
	for range 3000 {
		n := grow(r, 5)
		s, e := canon.Encode(n)
		m, _, f := parse.Parse(s)
		if e != api.OK || f != api.OK || !tree.Same(m, n) || !recog.Is(s) {
			t.Errorf("%q: %d, %d", s, e, f)
		}
		form, _ := canon.Encode(last)
		if (form == s) != tree.Same(n, last) {
			t.Errorf("%q, %q", s, form)
		}
		// Each list, map and text has other texts than its form; of the others such have blanks.
		other := s[:1] + " " + s[1:]
		switch n.Kind {
		case api.Text:
			other = `"\u0061` + s[1:]
			n.S = "a" + n.S
		case api.List, api.Map:
		default:
			other = " " + s
		}
		if m, _, e := parse.Parse(other); e != api.OK || !tree.Same(m, n) || recog.Is(other) {
			t.Errorf("%q: %+v, %d", other, m, e)
		}
		last = n
	}
}

func TestP7WhateverBytesCome(t *testing.T) {
	r := rand.New(rand.NewSource(7))
	const likely = "[]{},:\"\"\\u0019-ntf aru\xc3\xa9"
	for range 50000 {
		b := make([]byte, r.Intn(12))
		for i := range b {
			if b[i] = byte(r.Intn(256)); r.Intn(4) > 0 {
				b[i] = likely[r.Intn(len(likely))]
			}
		}
		same(t, string(b))
		recog.All(string(b), "1")
	}
}
