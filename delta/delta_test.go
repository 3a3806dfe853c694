package delta_test

import (
	"math/rand"
	"slices"
	"strconv"
	"strings"
	"testing"

	"sealring/api"
	"sealring/delta"
	"sealring/parse"
	"sealring/trail"
	"sealring/tree"
)

type node = api.Node

type edit = delta.Edit

func mapOf(keys []string, values ...node) node { return node{Kind: api.Map, K: keys, L: values} }

func names(l ...string) []string { return l }

// read is what a text is read as.
func read(s string) node {
	n, _, e := parse.Parse(s)
	if e != api.OK {
		panic(s)
	}
	return n
}

func put(way, s string) edit { return edit{Way: way, Put: true, Value: read(s)} }

func isEdit(a, b edit) bool {
	return a.Way == b.Way && a.Put == b.Put && tree.Exact(a.Value, b.Value)
}

// finds asks for edits, and whether they make the one value of the other one.
func finds(t *testing.T, a, b node, want ...edit) {
	t.Helper()
	l, e := delta.Of(a, b)
	if e != api.OK || !slices.EqualFunc(l, want, isEdit) {
		t.Errorf("of %+v and %+v: %+v, %d, not %+v", a, b, l, e, want)
	}
	n, e := delta.Apply(a, l...)
	if e != api.OK || !tree.Same(n, b) || (len(l) == 0) != tree.Same(a, b) {
		t.Errorf("of %+v and %+v: %+v makes %+v, %d", a, b, l, n, e)
	}
}

func TestP51_1TheSame(t *testing.T) {
	for _, s := range []string{"null", "true", "1", `"a"`, "[]", "{}", "[1,[2]]", `{"a":{"b":[1]}}`} {
		finds(t, read(s), read(s))
	}
	finds(t, read(`{"a":1,"b":[{"c":1,"d":2}]}`), read(`{"b":[{"d":2,"c":1}],"a":1}`))
}

func TestP51_1Maps(t *testing.T) {
	finds(t, read(`{"a":1}`), read(`{"b":2}`), edit{Way: "/a"}, put("/b", "2"))
	finds(t, read(`{"a":1}`), read("{}"), edit{Way: "/a"})
	finds(t, read("{}"), read(`{"a":1}`), put("/a", "1"))
	finds(t, read(`{"a":1}`), read(`{"a":2}`), put("/a", "2"))
	finds(t, read(`{"d":1,"z":0,"b":1,"A":1,"":1}`), read(`{"z":1,"y":{"q":1,"p":2},"c":3,"B":4}`), edit{Way: "/"}, edit{Way: "/A"}, edit{Way: "/b"}, edit{Way: "/d"}, put("/B", "4"), put("/c", "3"), put("/y", `{"q":1,"p":2}`), put("/z", "1"))
	finds(t, read(`{"b":{"x":1,"y":1},"a":{"x":1}}`), read(`{"a":{"y":1},"b":{"y":2,"z":[]}}`), edit{Way: "/a/x"}, put("/a/y", "1"), edit{Way: "/b/x"}, put("/b/y", "2"), put("/b/z", "[]"))
	finds(t, read(`{"a/b":{"~":1,"/":1},"\u00e9":1,"~":0}`), read(`{"a/b":{"~":2,"\uffff":1},"\u00e9":2,"~":0}`), edit{Way: "/a~1b/~1"}, put("/a~1b/~0", "2"), put("/a~1b/\uffff", "1"), put("/\u00e9", "2"))
	finds(t, read(`{"\ud800\udc00":1,"\uffff":1}`), read("{}"), edit{Way: "/\uffff"}, edit{Way: "/\U00010000"})
}

func TestP51_1Lists(t *testing.T) {
	finds(t, read("[1,2]"), read("[1,3]"), put("/1", "3"))
	finds(t, read("[1,2]"), read("[2,1]"), put("/0", "2"), put("/1", "1"))
	finds(t, read("[1,2]"), read("[1]"), put("", "[1]"))
	finds(t, read("[]"), read("[1]"), put("", "[1]"))
	finds(t, read("[[1],[2]]"), read("[[1,1],[3]]"), put("/0", "[1,1]"), put("/1/0", "3"))
	finds(t, read(`{"l":[{"a":1},{"b":1}]}`), read(`{"l":[{"a":2},{"a":1}]}`), put("/l/0/a", "2"), edit{Way: "/l/1/b"}, put("/l/1/a", "1"))
	long := read("[0,0,0,0,0,0,0,0,0,0,0,0]")
	other := read("[0,0,1,0,0,0,0,0,0,0,1,1]")
	finds(t, long, other, put("/2", "1"), put("/10", "1"), put("/11", "1"))
}

func TestP51_1Others(t *testing.T) {
	kinds := []string{"null", "true", "false", "0", "1", `"0"`, `"a"`, `""`, "[]", "{}", "[0]", `{"a":0}`, "[[]]"}
	for i, a := range kinds {
		for j, b := range kinds {
			switch {
			case i == j:
				finds(t, read(a), read(b))
			case a[0] == '{' && b[0] == '{':
			case a == "[0]" && b == "[[]]" || b == "[0]" && a == "[[]]":
				finds(t, read(a), read(b), put("/0", b[1:len(b)-1]))
			default:
				finds(t, read(a), read(b), put("", b))
				finds(t, mapOf(names("k"), read(a)), mapOf(names("k"), read(b)), put("/k", b))
			}
		}
	}
	// What is put stands as it stood, and what is taken away has no value.
	b := mapOf(names("z", "a"), tree.Int(1), tree.Int(2))
	finds(t, tree.Null(), b, edit{Way: "", Put: true, Value: b})
	finds(t, tree.Map(), tree.Map(tree.Text("k"), b), edit{Way: "/k", Put: true, Value: b})
}

func refused(t *testing.T, a, b node, want api.Errno) {
	t.Helper()
	if l, e := delta.Of(a, b); e != want || len(l) != 0 {
		t.Errorf("%+v, %d, not %d", l, e, want)
	}
}

// deep is a list in so many lists.
func deep(lists int) node {
	n := tree.List()
	for range lists {
		n = tree.List(n)
	}
	return n
}

func TestP51_1WhatMayNotBe(t *testing.T) {
	bad := tree.Int(1 << 53)
	refused(t, bad, tree.Null(), api.ErrRange)
	refused(t, tree.Null(), bad, api.ErrRange)
	refused(t, bad, bad, api.ErrRange)
	refused(t, node{}, bad, api.ErrKind)
	refused(t, bad, node{}, api.ErrRange)
	refused(t, mapOf(names("a", "a"), tree.Null(), tree.Null()), tree.Null(), api.ErrTwice)
	refused(t, tree.Null(), mapOf(names("a")), api.ErrArg)
	refused(t, deep(1000000), deep(1000000), api.ErrDeep)
	refused(t, tree.List(), deep(64), api.ErrDeep)
	finds(t, tree.List(), deep(63), edit{Put: true, Value: deep(63)})
}

func applies(t *testing.T, n node, want node, l ...edit) {
	t.Helper()
	if got, e := delta.Apply(n, l...); e != api.OK || !tree.Exact(got, want) {
		t.Errorf("%+v of %+v: %+v, %d, not %+v", l, n, got, e, want)
	}
}

func fails(t *testing.T, n node, want api.Errno, l ...edit) {
	t.Helper()
	if got, e := delta.Apply(n, l...); e != want || !tree.Exact(got, node{}) {
		t.Errorf("%+v of %+v: %+v, %d, not %d", l, n, got, e, want)
	}
	if got, e := delta.Turn(n, l...); e != want || len(got) != 0 {
		t.Errorf("Turn %+v of %+v: %+v, %d, not %d", l, n, got, e, want)
	}
}

func TestP51_2Apply(t *testing.T) {
	n := read(`{"a":1,"b":[1,{"c":2,"d":3}],"e":{"f":4}}`)
	applies(t, n, n)
	applies(t, n, read("5"), put("", "5"))
	applies(t, n, read(`{"a":5,"b":[1,{"c":2,"d":3}],"e":{"f":4}}`), put("/a", "5"))
	applies(t, n, read(`{"a":1,"b":[1,{"c":2,"d":3}],"e":{"f":4},"g":5}`), put("/g", "5"))
	applies(t, n, read(`{"a":1,"b":[1,{"c":2,"d":5,"x":6}],"e":{"f":4}}`), put("/b/1/d", "5"), put("/b/1/x", "6"))
	applies(t, n, read(`{"a":1,"b":[5,{"c":2,"d":3}],"e":{"f":4}}`), put("/b/0", "5"))
	applies(t, n, read(`{"b":[1,{"c":2,"d":3}],"e":{"f":4}}`), edit{Way: "/a"})
	applies(t, n, read(`{"a":1,"b":[1,{"d":3}],"e":{"f":4}}`), edit{Way: "/b/1/c"})
	applies(t, n, read(`{"a":1,"b":[1,{"c":2,"d":3}],"e":{}}`), edit{Way: "/e/f", Value: read("7")})
	applies(t, n, read(`{"a":1,"b":[1,{"c":2,"d":3}]}`), edit{Way: "/e/f"}, edit{Way: "/e"})
	applies(t, n, read(`{"a":{"x":{"y":[]}},"b":[1,{"c":2,"d":3}],"e":{"f":4}}`), put("/a", "{}"), put("/a/x", "1"), put("/a/x", "{}"), put("/a/x/y", "[]"))
	applies(t, read(`{"":{"":1},"a/b":1,"~":2}`), read(`{"":{},"~":3}`), edit{Way: "//"}, edit{Way: "/a~1b"}, put("/~0", "3"))
	// Values that may not be are put, too.
	applies(t, n, node{Kind: 9}, edit{Put: true, Value: node{Kind: 9}})
	applies(t, tree.Map(), mapOf(names("a"), node{}), edit{Way: "/a", Put: true})
}

func TestP51_2OfWhatMayNotBe(t *testing.T) {
	twice := mapOf(names("a", "b", "a"), tree.Int(1), tree.Int(2), tree.Int(3))
	applies(t, twice, mapOf(names("b"), tree.Int(2)), edit{Way: "/a"})
	applies(t, twice, mapOf(names("a", "b", "a"), tree.Int(9), tree.Int(2), tree.Int(3)), put("/a", "9"))
	applies(t, node{Kind: api.Map, N: 1, S: "s", K: names("a", "b", "c"), L: []node{tree.Int(1), tree.Int(2)}}, node{Kind: api.Map, N: 1, S: "s", K: names("b"), L: []node{tree.Int(2)}}, edit{Way: "/a"})
	fails(t, mapOf(names("a", "b"), tree.Int(1)), api.ErrNone, edit{Way: "/b"})
	fails(t, node{Kind: api.List, K: names("a"), L: []node{tree.Int(1)}}, api.ErrNone, edit{Way: "/a"})
	if n, e := delta.Apply(deep(1000000), put(strings.Repeat("/0", 1000000), "1")); e != api.OK || tree.Depth(n) != 1000001 {
		t.Error(e)
	}
}

func TestP51_2WhatIsNotThere(t *testing.T) {
	n := read(`{"a":1,"b":[1,{"c":2}],"0":{}}`)
	for _, way := range []string{"/a/x", "/x/y", "/b/2", "/b/-1", "/b/x", "/b/01", "/b/0/x", "/b/1/x/y", "/b/", "/0/x/y", "/A/a"} {
		fails(t, n, api.ErrNone, put(way, "1"))
	}
	for _, way := range []string{"", "/x", "/a/x", "/b/0", "/b/1", "/b/2", "/b/1/d", "/0/x", "/x/y", "/", "/A", "/b/0/c"} {
		fails(t, n, api.ErrNone, edit{Way: way})
	}
	for _, s := range []string{"null", "1", `"a"`, "[1]", "true"} {
		fails(t, read(s), api.ErrNone, edit{Way: ""})
		fails(t, read(s), api.ErrNone, edit{Way: "/0"})
		fails(t, read(s), api.ErrNone, edit{Way: "/a"})
		fails(t, read(s), api.ErrNone, put("/a", "1"))
	}
	fails(t, node{}, api.ErrNone, edit{})
}

func TestP51_2TheFirstError(t *testing.T) {
	n := read(`{"a":1}`)
	for _, way := range []string{"a", "/~", "/~2", "x/", "~0"} {
		fails(t, n, api.ErrForm, put(way, "1"))
		fails(t, n, api.ErrForm, edit{Way: way})
		fails(t, n, api.ErrForm, put("/b", "1"), edit{Way: way}, edit{Way: "/x"})
		fails(t, n, api.ErrNone, edit{Way: "/x"}, edit{Way: way})
	}
	fails(t, n, api.ErrNone, edit{Way: "/a"}, edit{Way: "/a"})
	fails(t, n, api.ErrNone, put("", "1"), edit{Way: "/a"})
	fails(t, n, api.ErrForm, put("", "1"), edit{Way: "a"}, edit{Way: "/a"})
}

func TestP51_2WhatIsHandedInIsNotChanged(t *testing.T) {
	fresh := func() node { return read(`{"b":[1,{"c":2,"d":3}],"a":{"x":1,"y":2}}`) }
	n, m := fresh(), read(`{"a":{"z":1},"b":[2,{"d":1}]}`)
	l, _ := delta.Of(n, m)
	delta.Apply(n, l...)
	delta.Turn(n, l...)
	delta.Of(m, n)
	if !tree.Exact(n, fresh()) || !tree.Exact(m, read(`{"a":{"z":1},"b":[2,{"d":1}]}`)) {
		t.Errorf("%+v, %+v", n, m)
	}
	first, _ := delta.Apply(n, put("/b/0", "7"))
	second, _ := delta.Apply(n, edit{Way: "/a/x"})
	if !tree.Exact(first, read(`{"b":[7,{"c":2,"d":3}],"a":{"x":1,"y":2}}`)) || !tree.Exact(second, read(`{"b":[1,{"c":2,"d":3}],"a":{"y":2}}`)) {
		t.Errorf("%+v, %+v", first, second)
	}
}

func TestP51_3Turn(t *testing.T) {
	turns := func(n node, l []edit, want ...edit) {
		t.Helper()
		got, e := delta.Turn(n, l...)
		if e != api.OK || !slices.EqualFunc(got, want, isEdit) {
			t.Errorf("%+v, %d, not %+v", got, e, want)
		}
	}
	n := read(`{"a":1,"b":[1,2]}`)
	turns(n, nil)
	turns(n, []edit{put("/a", "1")})
	turns(n, []edit{put("/a", "2")}, put("/a", "1"))
	turns(n, []edit{edit{Way: "/a"}}, put("/a", "1"))
	turns(n, []edit{put("/c", "2"), edit{Way: "/a"}, put("/b/1", "3")}, edit{Way: "/c"}, put("/a", "1"), put("/b/1", "2"))
	turns(n, []edit{put("", "5")}, put("", `{"a":1,"b":[1,2]}`))
	turns(n, []edit{put("/c", "2"), edit{Way: "/c"}})
	for _, l := range [][]edit{{{Put: true, Value: tree.Int(1 << 53)}}, {put("/c", "1"), {Way: "/c", Put: true, Value: tree.Int(1 << 53)}}} {
		if got, e := delta.Turn(n, l...); e != api.ErrRange || len(got) != 0 {
			t.Errorf("%+v, %d", got, e)
		}
	}
	if got, e := delta.Turn(tree.Text("\xff"), put("", "1")); e != api.ErrText || len(got) != 0 {
		t.Errorf("%+v, %d", got, e)
	}
	if got, e := delta.Turn(tree.Text("\xff"), edit{Put: true}); e != api.ErrKind || len(got) != 0 {
		t.Errorf("%+v, %d", got, e)
	}
}

// told is what the chapter tells of two nodes, word by word.
func told(a, b node, way []string) []edit {
	if tree.Same(a, b) {
		return nil
	}
	at := func(name string) []string { return append(slices.Clone(way), name) }
	var l []edit
	if a.Kind == api.Map && b.Kind == api.Map {
		for _, key := range tree.Sorted(a).K {
			if _, ok := tree.Get(b, key); !ok {
				l = append(l, edit{Way: trail.Write(at(key)...)})
			}
		}
		for _, key := range tree.Sorted(b).K {
			v, _ := tree.Get(b, key)
			if was, ok := tree.Get(a, key); ok {
				l = append(l, told(was, v, at(key))...)
			} else {
				l = append(l, edit{Way: trail.Write(at(key)...), Put: true, Value: v})
			}
		}
		return l
	}
	if a.Kind == api.List && b.Kind == api.List && len(a.L) == len(b.L) {
		for i := range a.L {
			l = append(l, told(a.L[i], b.L[i], at(strconv.Itoa(i)))...)
		}
		return l
	}
	return []edit{{Way: trail.Write(way...), Put: true, Value: b}}
}

// grow makes some node that may be.
func grow(r *rand.Rand, deep int) node {
	keys := []string{"a", "b", "c", "", "~", "/", "0", "a/b", "\u00e9"}
	switch kind := r.Intn(8); {
	case kind < 2 || deep == 0:
		return []node{tree.Null(), tree.Bool(true), tree.Int(0), tree.Int(1), tree.Text("a"), tree.List(), tree.Map()}[r.Intn(7)]
	case kind < 4:
		l := tree.List()
		for range r.Intn(4) {
			l.L = append(l.L, grow(r, deep-1))
		}
		return l
	}
	m := tree.Map()
	for range r.Intn(6) {
		m = tree.Put(m, keys[r.Intn(len(keys))], grow(r, deep-1))
	}
	return m
}

// changed is n with something else at some of its ways.
func changed(r *rand.Rand, n node) node {
	var ways [][]string
	for way := range trail.All(n) {
		l, _ := trail.Read(way)
		ways = append(ways, l)
	}
	for range r.Intn(4) {
		way := ways[r.Intn(len(ways))]
		if m, ok := trail.At(n, way...); ok && m.Kind == api.Map && r.Intn(2) == 0 && len(m.K) > 0 {
			n, _ = trail.Put(n, tree.Without(m, m.K[r.Intn(len(m.K))]), way...)
		} else if ok {
			n, _ = trail.Put(n, grow(r, 2), way...)
		}
	}
	return n
}

func TestP51_4ThereAndBack(t *testing.T) {
	r := rand.New(rand.NewSource(51))
	for range 5000 {
		a := grow(r, 5)
		b := changed(r, a)
		if r.Intn(10) == 0 {
			b = grow(r, 5)
		}
		finds(t, a, b, told(a, b, nil)...)
		l, _ := delta.Of(a, b)
		back, e := delta.Turn(a, l...)
		if e != api.OK {
			t.Error(e)
		}
		m, _ := delta.Apply(a, l...)
		if n, e := delta.Apply(m, back...); e != api.OK || !tree.Same(n, a) {
			t.Errorf("%+v: %+v, %d", a, n, e)
		}
	}
}

func TestP7WhateverComes(t *testing.T) {
	r := rand.New(rand.NewSource(7))
	some := func() node {
		n := grow(r, 3)
		switch r.Intn(6) {
		case 0:
			n.Kind = r.Intn(9) - 1
		case 1:
			n.K = append(n.K, "a")
		case 2:
			n = tree.List(n, tree.Text("\xff"))
		}
		return n
	}
	ways := []string{"", "/", "/a", "/a/b", "/0", "/0/0", "/~0", "/~", "a", "/b/0/a"}
	for range 5000 {
		a, b := some(), some()
		want := tree.Check(a)
		if want == api.OK {
			want = tree.Check(b)
		}
		if l, e := delta.Of(a, b); e != want || e != api.OK && len(l) > 0 {
			t.Error(l, e, want)
		}
		var l []edit
		for range r.Intn(4) {
			l = append(l, edit{ways[r.Intn(len(ways))], r.Intn(3) > 0, some()})
		}
		if n, e := delta.Apply(a, l...); e != api.OK && !tree.Exact(n, node{}) {
			t.Error(n, e)
		}
		delta.Turn(a, l...)
	}
}
