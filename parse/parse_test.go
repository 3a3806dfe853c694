package parse_test

import (
	"encoding/json"
	"math/rand"
	"strconv"
	"strings"
	"testing"

	"sealring/api"
	"sealring/bound"
	"sealring/lex"
	"sealring/num"
	"sealring/parse"
	"sealring/tree"
)

type node = api.Node

// parses asks for what is promised of every text, and tells what came of it.
func parses(t *testing.T, s string) (node, int, api.Errno) {
	t.Helper()
	n, i, e := parse.Parse(s)
	if i.Steps < 1 || i.Steps > bound.Steps(len(s)) {
		t.Errorf("%.60q: %d steps", s, i.Steps)
	}
	if deep := parse.Depth(s); deep < 0 || deep > api.MaxDepth {
		t.Errorf("%.60q: went %d deep", s, deep)
	}
	if e != api.OK {
		if !tree.Exact(n, node{}) || i.Depth != 0 || i.Nodes != 0 || i.At < 0 || i.At > len(s) {
			t.Errorf("%.60q: %+v, %+v with %d", s, n, i, e)
		}
		return n, i.At, e
	}
	if tree.Check(n) != api.OK || i.At != 0 || i.Depth != tree.Depth(n) || i.Nodes != tree.Count(n) || i.Nodes > len(s) || i.Depth > api.MaxDepth {
		t.Errorf("%.60q: %+v, %+v", s, n, i)
	}
	return n, 0, api.OK
}

// reads asks for a node, in all its fields, the keys' order among them.
func reads(t *testing.T, s string, want node) {
	t.Helper()
	if n, _, e := parses(t, s); e != api.OK || !tree.Exact(n, want) {
		t.Errorf("%.60q: %+v, %d, not %+v", s, n, e, want)
	}
}

func fails(t *testing.T, s string, at int, e api.Errno) {
	t.Helper()
	if _, gotAt, got := parses(t, s); got != e || gotAt != at {
		t.Errorf("%.60q: %d at %d, not %d at %d", s, got, gotAt, e, at)
	}
}

func mapOf(keys []string, values ...node) node { return node{Kind: api.Map, K: keys, L: values} }

func TestP9_1EachKind(t *testing.T) {
	for s, want := range map[string]node{
		"null": tree.Null(), "true": tree.Bool(true), "false": tree.Bool(false), "0": tree.Int(0), "-12": tree.Int(-12), "9007199254740991": tree.Int(api.MaxInt), "-9007199254740991": tree.Int(-api.MaxInt),
		`""`: tree.Text(""), `"a\n\u00e9\"/"`: tree.Text("a\n\u00e9\"/"), `"null"`: tree.Text("null"),
		"[]": tree.List(), "[null]": tree.List(tree.Null()), "[1,2,1]": tree.List(tree.Int(1), tree.Int(2), tree.Int(1)), "[[],[[]],{}]": tree.List(tree.List(), tree.List(tree.List()), tree.Map()),
		"{}": tree.Map(), `{"":null}`: mapOf([]string{""}, tree.Null()), `{"b":1,"a":{"b":2}}`: mapOf([]string{"b", "a"}, tree.Int(1), mapOf([]string{"b"}, tree.Int(2))), `{"a":[],"A":{},"\u00e9":"x"}`: mapOf([]string{"a", "A", "\u00e9"}, tree.List(), tree.Map(), tree.Text("x")),
		`[{"a":1},{"a":1}]`: tree.List(mapOf([]string{"a"}, tree.Int(1)), mapOf([]string{"a"}, tree.Int(1))),
	} {
		reads(t, s, want)
		reads(t, " \t\r\n"+s+"\n\n ", want)
		reads(t, "["+s+"]", tree.List(want))
		reads(t, "{ \"k\" :"+s+"\t}", mapOf([]string{"k"}, want))
	}
	reads(t, `[1, {"a": null}]`, tree.List(tree.Int(1), mapOf([]string{"a"}, tree.Null())))
}

func TestP9_1TheDocumentsErrors(t *testing.T) {
	fails(t, `{"a":1,"a":2}`, 7, api.ErrTwice)
	fails(t, "[1,]", 3, api.ErrForm)
	fails(t, "[", 1, api.ErrShort)
	fails(t, "1 2", 2, api.ErrEnd)
	fails(t, "9007199254740992", 0, api.ErrRange)
	fails(t, "1.0", 0, api.ErrNumber)
	fails(t, "-0", 0, api.ErrNumber)
}

func TestP9_1WhatIsWanting(t *testing.T) {
	for _, s := range []string{"", "[", "{", "[1", "[1,", `{"a"`, `{"a":`, `{"a":1`, `{"a":1,`, "[[]", "[{}", `{"a":[]`, `[{"a":[{"b":[`} {
		fails(t, s, len(s), api.ErrShort)
		fails(t, s+" \n", len(s)+2, api.ErrShort)
		fails(t, "\t"+s, len(s)+1, api.ErrShort)
	}
}

func TestP9_1WhatGoesOnWithNothing(t *testing.T) {
	for _, s := range []string{"/]", "/}", "/,", "/:", "[/,", "[/}", "[/:", "[1/\"b\"", "[1/:", "[1/}", "[1/null", "[1,/]", "[1,/,", "{/1", "{/,", "{/:", "{/]", "{/{", "{/[", "{/null", `{"a"/,`, `{"a"/}`, `{"a"/1`, `{"a"/"b"`, `{"a":/}`, `{"a":/,`, `{"a":/:`, `{"a":1/"b"`, `{"a":1/]`, `{"a":1/:`, `{"a":1,/}`, `{"a":1,/1`, `{"a":1,/,`, "[[]/[", "[{}/{", "[[/}"} {
		ahead, word, _ := strings.Cut(s, "/")
		fails(t, ahead+word, len(ahead), api.ErrForm)
		fails(t, ahead+" "+word, len(ahead)+1, api.ErrForm)
		fails(t, ahead+word+" x", len(ahead), api.ErrForm)
	}
}

func TestP9_1WhatStandsBehind(t *testing.T) {
	for _, s := range []string{"1", "null", `"a"`, "[]", "{}", "[1]", `{"a":1}`} {
		for _, word := range []string{"1", "null", "true", "false", `"a"`, "[", "]", "{", "}", ",", ":"} {
			fails(t, s+" "+word, len(s)+1, api.ErrEnd)
			fails(t, s+"\n\n"+word+" x", len(s)+2, api.ErrEnd)
		}
	}
}

func TestP9_1WordsThatAreNone(t *testing.T) {
	for word, e := range map[string]api.Errno{"x": api.ErrForm, "tru": api.ErrForm, "01": api.ErrNumber, "1.5": api.ErrNumber, "-": api.ErrShort, "-x": api.ErrForm, "9007199254740992": api.ErrRange, `"a`: api.ErrShort, `"\x"`: api.ErrEscape, `"\ud800"`: api.ErrEscape, "\"\xff\"": api.ErrText, "\"\n\"": api.ErrForm, "\x00": api.ErrForm, "\xff": api.ErrForm} {
		// also where no word might stand, or none but another one
		for _, ahead := range []string{"", " ", "[", "[1", "[1,", "{", `{"a"`, `{"a":`, `{"a":1`, `{"a":1,`, "1", "[]", "{} "} {
			if ahead == "1" || ahead == "[1" || ahead == `{"a":1` {
				ahead += "\t" // two numbers side by side are one
			}
			fails(t, ahead+word, len(ahead), e)
		}
	}
	fails(t, "] x", 0, api.ErrForm)
	fails(t, "[1 2 x", 3, api.ErrForm)
	fails(t, "1 2 01", 2, api.ErrEnd)
	fails(t, `{"a":1,"a" 01`, 7, api.ErrTwice)
}

func TestP9_1KeysTwice(t *testing.T) {
	fails(t, `{"a":1,"b":2,"a":3}`, 13, api.ErrTwice)
	fails(t, `{"a":1,"b":2, "b":3}`, 14, api.ErrTwice)
	fails(t, `{"a":1,"\u0061":2}`, 7, api.ErrTwice)
	fails(t, `{"":1,"":2}`, 6, api.ErrTwice)
	fails(t, `{"a":1,"a"`, 7, api.ErrTwice)
	fails(t, `{"a":1,"a"]`, 7, api.ErrTwice)
	fails(t, `[{"x":{"a":1,"a":2}}]`, 13, api.ErrTwice)
	fails(t, `{"a":{"b":{}},"c":1,"a":`, 20, api.ErrTwice)
	reads(t, `{"a":{"a":{"a":1}},"b":{"a":2}}`, mapOf([]string{"a", "b"}, mapOf([]string{"a"}, mapOf([]string{"a"}, tree.Int(1))), mapOf([]string{"a"}, tree.Int(2))))
	reads(t, `{"a":1,"a\u0000":2,"A":3," a":4,"\u00e1":5}`, mapOf([]string{"a", "a\x00", "A", " a", "\u00e1"}, tree.Int(1), tree.Int(2), tree.Int(3), tree.Int(4), tree.Int(5)))
}

func TestP9_1TooDeep(t *testing.T) {
	open := func(lists int) string { return strings.Repeat("[", lists) }
	shut := func(lists int) string { return strings.Repeat("]", lists) }
	if n, _, e := parses(t, open(64)+shut(64)); e != api.OK || tree.Depth(n) != 64 {
		t.Error(e)
	}
	if n, _, e := parses(t, open(63)+"1"+shut(63)); e != api.OK || tree.Depth(n) != 64 {
		t.Error(e)
	}
	maps := strings.Repeat(`{"a":`, 63)
	if n, _, e := parses(t, maps+"{}"+strings.Repeat("}", 63)); e != api.OK || tree.Depth(n) != 64 {
		t.Error(e)
	}
	for _, word := range []string{"1", "null", "true", "false", `"a"`, "[", "{"} {
		fails(t, open(64)+word, 64, api.ErrDeep)
		fails(t, open(64)+"  "+word+shut(64), 66, api.ErrDeep)
		fails(t, open(63)+"1,"+"["+word, 66, api.ErrDeep)
		fails(t, maps+`{"a":`+word, 64*5, api.ErrDeep)
	}
	for _, word := range []string{",", ":", "}"} {
		fails(t, open(64)+word, 64, api.ErrForm)
		fails(t, maps+`{"a":`+word, 64*5, api.ErrForm)
	}
	for _, word := range []string{"1", "null", "[", "{", "]", ",", ":"} {
		fails(t, maps+"{"+word, 63*5+1, api.ErrForm)
	}
	fails(t, open(64), 64, api.ErrShort)
	fails(t, maps+`{"a":`, 64*5, api.ErrShort)
	fails(t, maps+`{"a" 1`, 64*5, api.ErrForm)
	fails(t, open(64)+"x", 64, api.ErrForm)
	fails(t, open(64)+"01", 64, api.ErrNumber)
	fails(t, open(1000000), 64, api.ErrDeep)
	fails(t, strings.Repeat(`{"a":`, 1000000), 64*5, api.ErrDeep)
	fails(t, open(64)+shut(64)+"[", 128, api.ErrEnd)
	wide := "[" + strings.Repeat(open(63)+shut(63)+",", 10) + "1]"
	if _, _, e := parses(t, wide); e != api.OK {
		t.Error(e)
	}
}

// goesOn: is there a value that begins with these words? The library's reader of JSON is asked of the shortest ways to go on.
func goesOn(words []string) bool {
	var open string
	for _, w := range words {
		switch w {
		case "[", "{":
			open = w + open
		case "]", "}":
			if open == "" {
				return false
			}
			open = open[1:]
		}
	}
	ends := strings.NewReplacer("[", "]", "{", "}").Replace(open)
	for _, more := range []string{"", " 0", `"k":0`, ":0"} {
		if json.Valid([]byte(strings.Join(words, " ") + more + ends)) {
			return true
		}
	}
	return false
}

func TestP9_1AllShortRowsOfWords(t *testing.T) {
	signs := []string{"[", "]", "{", "}", ",", ":", "7", `"k"`}
	var look func(words []string)
	look = func(words []string) {
		s := strings.Join(words, " ")
		at, e := len(s), api.ErrShort
		for i := range words {
			if goesOn(words[:i+1]) {
				continue
			}
			at, e = max(0, len(strings.Join(words[:i], " "))+1), api.ErrForm
			if json.Valid([]byte(strings.Join(words[:i], " "))) {
				e = api.ErrEnd
			}
			if i == 0 {
				at = 0
			}
			break
		}
		switch {
		case json.Valid([]byte(s)):
			if _, _, got := parses(t, s); got != api.OK && strings.Count(s, "k") < 2 {
				t.Errorf("%q: %d", s, got)
			}
		case strings.Count(s, "k") < 2: // with one key there is none twice
			fails(t, s, at, e)
		}
		if e == api.ErrShort && len(words) < 6 { // what is wrong already stays so
			for _, w := range signs {
				look(append(words[:len(words):len(words)], w))
			}
		}
	}
	look(nil)
}

// decoded is what the library's reader of JSON makes of a text.
func decoded(d *json.Decoder) node {
	token, _ := d.Token()
	switch v := token.(type) {
	case json.Delim:
		n := tree.List()
		if v == '{' {
			n = tree.Map()
		}
		for d.More() {
			if v == '{' {
				key, _ := d.Token()
				n.K = append(n.K, key.(string))
			}
			n.L = append(n.L, decoded(d))
		}
		d.Token()
		return n
	case json.Number:
		i, _ := strconv.ParseInt(v.String(), 10, 64)
		return tree.Int(i)
	case string:
		return tree.Text(v)
	case bool:
		return tree.Bool(v)
	}
	return tree.Null()
}

// grow writes some value, with blanks between its words.
func grow(r *rand.Rand, deep int) string {
	blank := []string{"", "", " ", "\n", "\t\r "}[r.Intn(5)]
	kind := r.Intn(7)
	if deep == 0 {
		kind = r.Intn(5)
	}
	texts := []string{`"a"`, `""`, `"\u00e9\n"`, "\"\u00e9\U0001f600\"", `"\ud83d\ude00"`, `"b\"\\\/"`, `"{}[],:1"`}
	switch kind {
	case 0:
		return blank + "null" + blank
	case 1:
		return []string{"true", "false"}[r.Intn(2)] + blank
	case 2:
		return blank + num.Show(r.Int63n(2*api.MaxInt)-api.MaxInt)
	case 3, 4:
		return texts[r.Intn(len(texts))] + blank
	case 5:
		var l []string
		for range r.Intn(5) {
			l = append(l, grow(r, deep-1))
		}
		return blank + "[" + blank + strings.Join(l, ",") + "]"
	}
	var l []string
	for i, at := range r.Perm(len(texts)) {
		if i >= 4 || r.Intn(4) == 0 {
			break
		}
		if at == 3 { // another text of the same code points stands there, too
			continue
		}
		l = append(l, blank+texts[at]+blank+":"+grow(r, deep-1))
	}
	return "{" + blank + strings.Join(l, ",") + "}" + blank
}

func TestP9_1AsTheLibraryReads(t *testing.T) {
	r := rand.New(rand.NewSource(9))
	for range 5000 {
		s := grow(r, 6)
		d := json.NewDecoder(strings.NewReader(s))
		d.UseNumber()
		reads(t, s, decoded(d))
	}
}

func TestP9_1TheFirstErrorWordByWord(t *testing.T) {
	r := rand.New(rand.NewSource(91))
	for range 5000 {
		s := grow(r, 4)
		words, _, e := lex.Tokens(s)
		if e != api.OK {
			t.Fatal(s, e)
		}
		// What stands behind the word with which it goes wrong changes nothing.
		at := words[r.Intn(len(words))].From
		broken := s[:at] + []string{"]", "}", ",", ":", "x", "01", `"`, "1", "[", ""}[r.Intn(10)] + s[at:]
		_, wrong, e := parses(t, broken)
		if e == api.OK || wrong == len(broken) {
			continue
		}
		word, _ := lex.Next(broken, wrong)
		cut := len(broken)
		if word.Kind != 0 {
			cut = word.To
		}
		if e != api.ErrShort && broken[wrong] != '"' && broken[wrong] != '0' {
			fails(t, broken[:cut]+" ?", wrong, e)
			fails(t, broken[:cut]+"]", wrong, e)
		}
	}
}

func TestP9_2HowDeepTheReaderWent(t *testing.T) {
	for s, deep := range map[string]int{
		"": 0, " ": 0, "1": 0, `"[[["`: 0, "x": 0, "]": 0, ",[": 0, "[]": 1, "{}": 1, "[": 1, "{": 1, "[1": 1, "[x": 1, "[[": 2, "[[[": 3, "[]]": 1, "[][[": 1, "1[": 0, "[1[": 1, "[[],[]]": 2, "[[],[[": 3, "{[": 1, "{{": 1, `{"a"[`: 1, `{"a":[`: 2, `{"a":[1,{`: 3, `{"a":1,"a":[[[`: 1, `{"a":[],"a":[[[`: 2, "[[1],[x,[[": 2, "[[[]]]": 3, "[[[]],1]": 3, "[[[]],[]]": 3, "[[[]],[": 3, "[[{\"a\":[]}],{},x": 4, `[1, {"a": null}]`: 2, "[01,[": 1, "[}[": 1, "[,[": 1,
	} {
		if got := parse.Depth(s); got != deep {
			t.Errorf("%q: %d, not %d", s, got, deep)
		}
		if got := parse.Depth(" " + s + "\n"); got != deep {
			t.Errorf("%q: %d, not %d", s, got, deep)
		}
	}
	for lists := range 200 {
		s := strings.Repeat("[", lists)
		deep := min(lists, api.MaxDepth)
		for _, more := range []string{"", "1", "x", strings.Repeat("]", lists), "{", "}"} {
			want := deep
			if more == "{" {
				want = min(lists+1, api.MaxDepth)
			}
			if got := parse.Depth(s + more); got != want {
				t.Errorf("%d lists, %q: %d", lists, more, got)
			}
		}
	}
}

func TestP9_2InfoOfTheDocumentsExample(t *testing.T) {
	_, i, e := parse.Parse(`[1, {"a": null}]`)
	if i.At != 0 || i.Depth != 3 || i.Nodes != 4 || e != api.OK {
		t.Errorf("%+v, %d", i, e)
	}
	for s, want := range map[string][2]int{"1": {1, 1}, "[]": {1, 1}, "{}": {1, 1}, "[1]": {2, 2}, `{"a":1,"b":2}`: {2, 3}, "[[],[[]],1]": {3, 5}} {
		if _, i, _ := parse.Parse(s); i.Depth != want[0] || i.Nodes != want[1] {
			t.Errorf("%q: %+v", s, i)
		}
	}
}

// A text twice as long may take twice as many steps, and a few more, but not four times as many.
func TestP9_2StepsOfLongTexts(t *testing.T) {
	keys := func(many int) string {
		var b strings.Builder
		for i := range many {
			b.WriteString(`,"` + strconv.Itoa(i) + `":[]`)
		}
		return "{" + b.String()[1:] + "}"
	}
	texts := map[string]func(many int) string{
		"elements": func(many int) string { return "[" + strings.Repeat("1,", many) + "1]" },
		"keys":     keys,
		"lists":    func(many int) string { return "[" + strings.Repeat("[[]],", many) + "1]" },
		"short":    func(many int) string { return "[" + strings.Repeat("1,", many) },
		"text":     func(many int) string { return `"` + strings.Repeat(`\n`, many) + `"` },
		"no text":  func(many int) string { return `"` + strings.Repeat(`\n`, many) },
		"blanks":   func(many int) string { return strings.Repeat(" ", many) },
	}
	for name, text := range texts {
		parses(t, text(100000))
		_, one, _ := parse.Parse(text(5000))
		_, two, _ := parse.Parse(text(10000))
		if two.Steps > 3*one.Steps {
			t.Errorf("%s: %d steps, then %d", name, one.Steps, two.Steps)
		}
	}
}

func TestP9_3WhatIsReadMayBe(t *testing.T) {
	r := rand.New(rand.NewSource(93))
	for range 3000 {
		s := grow(r, 5)
		parses(t, s)
		b := []byte(s)
		for range 1 + r.Intn(3) {
			b[r.Intn(len(b))] = "[]{},:\"\\0-1 an\xff"[r.Intn(15)]
		}
		parses(t, string(b))
		parses(t, s[:r.Intn(len(s))])
	}
}

func TestP7WhateverBytesCome(t *testing.T) {
	r := rand.New(rand.NewSource(7))
	const likely = "[]{},:\"\"\\u0019-ntf aru\xc3\xa9"
	for range 30000 {
		b := make([]byte, r.Intn(16))
		for i := range b {
			if b[i] = byte(r.Intn(256)); r.Intn(4) > 0 {
				b[i] = likely[r.Intn(len(likely))]
			}
		}
		parses(t, string(b))
	}
}
