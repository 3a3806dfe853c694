package canon_test

import (
	"encoding/json"
	"math"
	"math/rand"
	"reflect"
	"strings"
	"testing"

	"sealring/api"
	"sealring/canon"
	"sealring/parse"
	"sealring/tree"
)

type node = api.Node

func mapOf(keys []string, values ...node) node { return node{Kind: api.Map, K: keys, L: values} }

// joined are a node's pieces together, and how many they are.
func joined(t *testing.T, n node) (string, int) {
	t.Helper()
	var b strings.Builder
	many := 0
	for piece := range canon.Pieces(n) {
		if piece == "" {
			t.Errorf("%+v: an empty piece", n)
		}
		b.WriteString(piece)
		many++
	}
	return b.String(), many
}

// writes asks for a form by all ways.
func writes(t *testing.T, n node, want string) {
	t.Helper()
	s, e := canon.Encode(n)
	size, f := canon.Size(n)
	if s != want || e != api.OK || size != len(want) || f != api.OK {
		t.Errorf("%+v: %q, %d, %d, %d, not %q", n, s, e, size, f, want)
	}
	if s, _ := joined(t, n); s != want {
		t.Errorf("pieces of %+v: %q, not %q", n, s, want)
	}
}

func refuses(t *testing.T, n node, want api.Errno) {
	t.Helper()
	s, e := canon.Encode(n)
	size, f := canon.Size(n)
	if s != "" || e != want || size != 0 || f != want {
		t.Errorf("kind %d: %q, %d, %d, %d, not %d", n.Kind, s, e, size, f, want)
	}
	if s, many := joined(t, n); s != "" || many != 0 {
		t.Errorf("kind %d: %d pieces", n.Kind, many)
	}
}

func TestP10_1EachKind(t *testing.T) {
	for s, n := range map[string]node{
		"null": tree.Null(), "true": tree.Bool(true), "false": tree.Bool(false), "0": tree.Int(0), "7": tree.Int(7), "-7": tree.Int(-7), "9007199254740991": tree.Int(api.MaxInt), "-9007199254740991": tree.Int(-api.MaxInt),
		`""`: tree.Text(""), `"a"`: tree.Text("a"), `"\"\\/\b\t\n\f\r\u0000\u001f"`: tree.Text("\"\\/\b\t\n\f\r\x00\x1f"), "\"\x7f\u00e9\u2028<&>\U0001f600\"": tree.Text("\x7f\u00e9\u2028<&>\U0001f600"),
		"[]": tree.List(), "[null]": tree.List(tree.Null()), "[1,2,1]": tree.List(tree.Int(1), tree.Int(2), tree.Int(1)), "[[],[[]],{}]": tree.List(tree.List(), tree.List(tree.List()), tree.Map()),
		"{}": tree.Map(), `{"":0}`: mapOf([]string{""}, tree.Int(0)), `{"a\n\"":[]}`: mapOf([]string{"a\n\""}, tree.List()),
	} {
		writes(t, n, s)
		writes(t, tree.List(n, n), "["+s+","+s+"]")
		writes(t, mapOf([]string{"k"}, n), `{"k":`+s+"}")
	}
	writes(t, tree.Map(tree.Text("b"), tree.Int(1), tree.Text("a"), tree.List(tree.Null(), tree.Text("x"))), `{"a":[null,"x"],"b":1}`)
	writes(t, node{Kind: api.List, L: []node{}, K: []string{}}, "[]")
}

func TestP10_1KeysRise(t *testing.T) {
	zero := tree.Int(0)
	writes(t, mapOf([]string{"b", "", "a", "B", "aa", "\u00e9", "\U00010000", "\uffff", "~", "\"", "!", "\x00", "10", "9"}, zero, zero, zero, zero, zero, zero, zero, zero, zero, zero, zero, zero, zero, zero),
		"{\"\":0,\"\\u0000\":0,\"!\":0,\"\\\"\":0,\"10\":0,\"9\":0,\"B\":0,\"a\":0,\"aa\":0,\"b\":0,\"~\":0,\"\u00e9\":0,\"\uffff\":0,\"\U00010000\":0}")
	inner := mapOf([]string{"y", "x"}, tree.Int(1), tree.Int(2))
	writes(t, mapOf([]string{"d", "c"}, tree.List(inner, inner), inner), `{"c":{"x":2,"y":1},"d":[{"x":2,"y":1},{"x":2,"y":1}]}`)
}

// in is a node in so many lists.
func in(lists int, n node) node {
	for range lists {
		n = tree.List(n)
	}
	return n
}

func TestP10_1WhatMayNotBe(t *testing.T) {
	for _, n := range []node{{}, {Kind: 7}, {Kind: -1}, {Kind: api.Null, N: 1}, {Kind: api.Bool, N: 2}, tree.Int(api.MaxInt + 1), tree.Int(math.MinInt64), tree.Text("\xff"), tree.Text("\xed\xa0\x80"), {Kind: api.Text, S: "a", N: 1}, {Kind: api.List, S: "x"}, mapOf([]string{"a"}), mapOf(nil, tree.Null()), mapOf([]string{"\xff"}, tree.Null()), mapOf([]string{"a", "b", "a"}, tree.Null(), tree.Null(), tree.Null()), {Kind: api.List, K: []string{"a"}}} {
		want := tree.Check(n)
		if want == api.OK {
			t.Fatalf("%+v may be", n)
		}
		refuses(t, n, want)
		refuses(t, tree.List(tree.Int(1), n), want)
		refuses(t, mapOf([]string{"a", "b"}, tree.Int(1), n), want)
		if s, e := canon.Join(tree.Int(1), n); s != "" || e != want {
			t.Errorf("Join: %q, %d", s, e)
		}
	}
	refuses(t, in(64, tree.Null()), api.ErrDeep)
	refuses(t, in(1000000, tree.Null()), api.ErrDeep)
	refuses(t, tree.List(tree.Int(1<<53), tree.Text("\xff")), api.ErrRange)
	refuses(t, tree.List(tree.Text("\xff"), tree.Int(1<<53)), api.ErrText)
	writes(t, in(63, tree.Null()), strings.Repeat("[", 63)+"null"+strings.Repeat("]", 63))
	writes(t, in(64, tree.List()).L[0], strings.Repeat("[", 64)+strings.Repeat("]", 64))
}

func TestP10_1PiecesEndWhenTheRangeDoes(t *testing.T) {
	n := tree.Map(tree.Text("b"), tree.List(tree.Int(1), tree.Map(tree.Text("c"), tree.Null())), tree.Text("a"), tree.Text("x"), tree.Text("c"), tree.Bool(true))
	seq := canon.Pieces(n)
	var all []string
	for piece := range seq {
		all = append(all, piece)
	}
	for leave := 1; leave <= len(all); leave++ {
		var got []string
		for piece := range seq {
			if got = append(got, piece); len(got) == leave {
				break
			}
		}
		if !reflect.DeepEqual(got, all[:leave]) {
			t.Errorf("left at %d: %q", leave, got)
		}
	}
}

func TestP10_1PiecesAsTheyStandWhenTheRangeBegins(t *testing.T) {
	n := tree.List(tree.Int(1), tree.Int(1<<53))
	seq := canon.Pieces(n)
	n.L[1] = tree.Int(2)
	var b strings.Builder
	for piece := range seq {
		b.WriteString(piece)
	}
	if b.String() != "[1,2]" {
		t.Error(b.String())
	}
}

func TestP10_1WhatIsHandedInIsNotChanged(t *testing.T) {
	fresh := func() node {
		return mapOf([]string{"b", "a"}, tree.List(mapOf([]string{"y", "x"}, tree.Int(1), tree.Int(2))), tree.Null())
	}
	n := fresh()
	canon.Encode(n)
	canon.Size(n)
	joined(t, n)
	canon.Join(n, n)
	if !tree.Exact(n, fresh()) {
		t.Errorf("%+v", n)
	}
	l := []node{tree.Int(3), tree.Int(1)}
	canon.Join(l[:1]...)
	if l[0].N != 3 || l[1].N != 1 {
		t.Error(l)
	}
}

func TestP10_2Join(t *testing.T) {
	for _, l := range [][]node{nil, {tree.Null()}, {tree.Int(2), tree.Int(1)}, {tree.List(), tree.Map(tree.Text("b"), tree.Null(), tree.Text("a"), tree.Null())}} {
		want, _ := canon.Encode(tree.List(l...))
		if s, e := canon.Join(l...); s != want || e != api.OK || s == "" {
			t.Errorf("%+v: %q, %d", l, s, e)
		}
	}
	if s, _ := canon.Join(tree.Int(2), tree.Text("a"), tree.Int(1)); s != `[2,"a",1]` {
		t.Error(s)
	}
	if s, e := canon.Join(in(62, tree.Null()), tree.Null()); e != api.OK || len(s) != 62*2+2+9 {
		t.Error(s, e)
	}
	if _, e := canon.Join(in(63, tree.Null())); e != api.ErrDeep {
		t.Error(e)
	}
}

var texts = []string{"", "a", "b", "A", "aa", "\u00e9", "\"", "\\", "\n", "\x00\x1f", "\U0001f600", "\uffff", "/", "<", "\x7f"}

// grow makes some node that may be.
func grow(r *rand.Rand, deep int) node {
	kind := r.Intn(6)
	if deep == 0 {
		kind = r.Intn(4)
	}
	switch kind {
	case 0:
		return tree.Null()
	case 1:
		return tree.Bool(r.Intn(2) == 1)
	case 2:
		return tree.Int(r.Int63n(2*api.MaxInt) - api.MaxInt)
	case 3:
		return tree.Text(texts[r.Intn(len(texts))])
	case 4:
		l := tree.List()
		for range r.Intn(4) {
			l.L = append(l.L, grow(r, deep-1))
		}
		return l
	}
	m := tree.Map()
	for _, at := range r.Perm(len(texts))[:r.Intn(5)] {
		m.K, m.L = append(m.K, texts[at]), append(m.L, grow(r, deep-1))
	}
	return m
}

// plain is what the library writes as JSON: of maps it puts the keys in the order of their bytes.
func plain(n node) any {
	switch n.Kind {
	case api.Bool:
		return n.N == 1
	case api.Int:
		return n.N
	case api.Text:
		return n.S
	case api.List:
		l := []any{}
		for _, m := range n.L {
			l = append(l, plain(m))
		}
		return l
	case api.Map:
		m := map[string]any{}
		for i, key := range n.K {
			m[key] = plain(n.L[i])
		}
		return m
	}
	return nil
}

func TestP10_1AsTheLibraryWrites(t *testing.T) {
	r := rand.New(rand.NewSource(10))
	for range 3000 {
		n := grow(r, 5)
		var b strings.Builder
		w := json.NewEncoder(&b)
		w.SetEscapeHTML(false)
		if e := w.Encode(plain(n)); e != nil {
			t.Fatal(e)
		}
		writes(t, n, strings.TrimSuffix(b.String(), "\n"))
	}
}

// shuffled is a node with its keys in another order.
func shuffled(r *rand.Rand, n node) node {
	out := n
	out.K, out.L = nil, nil
	for _, at := range r.Perm(len(n.L)) {
		if n.Kind == api.List {
			at = len(out.L)
		} else {
			out.K = append(out.K, n.K[at])
		}
		out.L = append(out.L, shuffled(r, n.L[at]))
	}
	return out
}

func TestP10_3ThereAndBack(t *testing.T) {
	r := rand.New(rand.NewSource(103))
	forms := map[string]node{}
	for range 3000 {
		n := grow(r, 4)
		s, _ := canon.Encode(n)
		if m, _, e := parse.Parse(s); e != api.OK || !tree.Same(m, n) || !tree.Exact(m, tree.Sorted(n)) {
			t.Errorf("%q: %+v, %d", s, m, e)
		}
		writes(t, shuffled(r, n), s)
		if m, ok := forms[s]; ok && !tree.Same(m, n) {
			t.Errorf("%q is the form of two", s)
		}
		forms[s] = n
	}
	var last node
	for s, n := range forms {
		if q, _ := canon.Encode(last); tree.Same(n, last) != (q == s) {
			t.Errorf("%q and %q", s, q)
		}
		last = n
	}
}

func TestP10_3NoTextIsShorterThanItsForm(t *testing.T) {
	signs := []string{"{", "}", "[", "]", ",", ":", `"`, `"a"`, `"\n"`, `\`, `\u0061`, `"\u000a"`, `"\/"`, "0", "1", "-", " ", "null", "true"}
	var look func(s string, more int)
	look = func(s string, more int) {
		if n, _, e := parse.Parse(s); e == api.OK {
			if form, e := canon.Encode(n); e != api.OK || len(form) > len(s) {
				t.Errorf("%q: %q, %d", s, form, e)
			}
		}
		for i := 0; i < len(signs) && more > 0; i++ {
			look(s+signs[i], more-1)
		}
	}
	look("", 4)
	look(`{"a":1,`, 4)
}
