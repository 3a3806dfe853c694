package trail_test

import (
	"math/rand"
	"reflect"
	"slices"
	"strconv"
	"strings"
	"testing"

	"sealring/api"
	"sealring/trail"
	"sealring/tree"
)

type node = api.Node

// is holds two nodes against each other in all fields.
func is(t *testing.T, what string, got, want node) {
	t.Helper()
	if !tree.Exact(got, want) {
		t.Errorf("%s: %+v, not %+v", what, got, want)
	}
}

func mapOf(keys []string, values ...node) node { return node{Kind: api.Map, K: keys, L: values} }

func ints(l ...int64) []node {
	var out []node
	for _, n := range l {
		out = append(out, tree.Int(n))
	}
	return out
}

func names(l ...string) []string { return l }

// sample has what ways may go through, what may not be among it.
func sample() node {
	return mapOf(
		names("a", "", "a/b~c", "0", "twice", "twice", "odd", "\xff"),
		tree.List(tree.Int(5), mapOf(names("x"), tree.Text("y")), tree.List(tree.Null())),
		tree.Bool(true),
		mapOf(names("1", "01"), tree.Int(1), tree.Int(2)),
		tree.Text("zero"),
		mapOf(names("k"), tree.Int(6)),
		mapOf(names("k", "j"), tree.Int(7), tree.Int(8)),
		node{Kind: api.Map, N: 3, S: "s", K: names("p", "q"), L: ints(9)},
		node{Kind: 77, K: names("a"), L: ints(1)},
	)
}

func at(t *testing.T, n node, l []string, want node, ok bool) {
	t.Helper()
	if got, is := trail.At(n, l...); is != ok || !tree.Exact(got, want) {
		t.Errorf("At(%q): %+v, %v, not %+v, %v", l, got, is, want, ok)
	}
}

func TestP8_1At(t *testing.T) {
	n := sample()
	at(t, n, nil, n, true)
	for way, want := range map[string]node{
		"a": n.L[0], "a.0": tree.Int(5), "a.1": n.L[0].L[1], "a.1.x": tree.Text("y"), "a.2.0": tree.Null(), "": tree.Bool(true), "a/b~c": n.L[2], "a/b~c.1": tree.Int(1), "a/b~c.01": tree.Int(2), "0": tree.Text("zero"), "twice": n.L[4], "twice.k": tree.Int(6), "odd": n.L[6], "odd.p": tree.Int(9), "\xff": n.L[7],
	} {
		at(t, n, strings.Split(way, "."), want, true)
	}
	for _, way := range []string{"b", "A", "a.", "a.3", "a.-1", "a.-0", "a.00", "a.01", "a.+1", "a. 1", "a.1 ", "a.1x", "a.1e0", "a.x", "a.9007199254740993", "a.18446744073709551616", "a.0.0", "a.0.", "a.1.y", "a.1.0", "a.2.1", "..", ".x", "0.0", "twice.j", "odd.q", "odd.p.p", "\xff.a", "\xff.0", "\xff.", "a/b~c.k"} {
		at(t, n, strings.Split(way, "."), node{}, false)
	}
	for kind := -1; kind < 8; kind++ {
		if m := (node{Kind: kind, N: 1, S: "0", K: names("0"), L: ints(4)}); kind == api.List || kind == api.Map {
			at(t, m, names("0"), tree.Int(4), true)
		} else {
			at(t, m, names("0"), node{}, false)
			at(t, m, names(""), node{}, false)
			at(t, m, nil, m, true)
		}
	}
	at(t, node{}, nil, node{}, true)
	at(t, mapOf(names("z"), node{}), names("z"), node{}, true)
	at(t, node{Kind: api.List, K: names("x"), L: ints(4)}, names("x"), node{}, false)
}

func TestP8_1AtInLongLists(t *testing.T) {
	var l node
	l.Kind = api.List
	for i := range 120 {
		l.L = append(l.L, tree.Int(int64(i)))
	}
	for i := range 120 {
		at(t, l, names(strconv.Itoa(i)), tree.Int(int64(i)), true)
	}
	at(t, l, names("120"), node{}, false)
	at(t, l, names("0120"), node{}, false)
}

func put(t *testing.T, n, v node, l []string, want node, ok bool) {
	t.Helper()
	if got, is := trail.Put(n, v, l...); is != ok || !tree.Exact(got, want) {
		t.Errorf("Put(%q): %+v, %v, not %+v, %v", l, got, is, want, ok)
	}
}

func TestP8_1Put(t *testing.T) {
	v := tree.Text("new")
	n := mapOf(names("l", "m"), tree.List(ints(1, 2, 3)...), mapOf(names("b", "a"), ints(4, 5)...))
	put(t, n, v, nil, v, true)
	put(t, node{}, v, nil, v, true)
	put(t, n, v, names("l"), mapOf(n.K, v, n.L[1]), true)
	put(t, n, v, names("m"), mapOf(n.K, n.L[0], v), true)
	put(t, n, v, names("l", "0"), mapOf(n.K, tree.List(v, tree.Int(2), tree.Int(3)), n.L[1]), true)
	put(t, n, v, names("l", "2"), mapOf(n.K, tree.List(tree.Int(1), tree.Int(2), v), n.L[1]), true)
	put(t, n, v, names("m", "b"), mapOf(n.K, n.L[0], mapOf(names("b", "a"), v, tree.Int(5))), true)
	put(t, n, v, names("new"), mapOf(names("l", "m", "new"), n.L[0], n.L[1], v), true)
	put(t, n, v, names("m", ""), mapOf(n.K, n.L[0], mapOf(names("b", "a", ""), tree.Int(4), tree.Int(5), v)), true)
	put(t, mapOf(nil), v, names("0"), mapOf(names("0"), v), true)
	put(t, n, node{}, names("m", "c"), mapOf(n.K, n.L[0], mapOf(names("b", "a", "c"), tree.Int(4), tree.Int(5), node{})), true)
}

func TestP8_1PutWhereNothingLeads(t *testing.T) {
	v := tree.Text("new")
	n := sample()
	for _, way := range []string{"b.c", "b.c.d", "a.3", "a.-1", "a.x", "a.01", "a.", "a.0.x", "a.0.0", "a.3.x", "a.1.y.z", "0.x", "0.0", ".x", "\xff.a", "odd.q.r"} {
		put(t, n, v, strings.Split(way, "."), n, false)
	}
	for kind := -1; kind < 8; kind++ {
		if m := (node{Kind: kind, K: names("a"), L: ints(4)}); kind != api.Map {
			put(t, m, v, names("a"), m, false)
			put(t, m, v, names("b"), m, false)
		}
	}
	put(t, tree.List(), v, names("0"), tree.List(), false)
	odd := mapOf(names("a", "b"), tree.Int(1)) // which stays as it is, where nothing is put
	put(t, odd, v, names("a", "x"), odd, false)
	put(t, odd, v, names("b", "x"), odd, false)
}

func TestP8_1PutInWhatMayNotBe(t *testing.T) {
	v := tree.Text("new")
	put(t, mapOf(names("a", "b"), tree.Int(1)), v, names("a"), mapOf(names("a"), v), true)
	put(t, mapOf(names("a", "b"), tree.Int(1)), v, names("b"), mapOf(names("a", "b"), tree.Int(1), v), true)
	put(t, mapOf(names("a"), ints(1, 2)...), v, names("c"), mapOf(names("a", "c"), tree.Int(1), v), true)
	put(t, mapOf(names("a", "b", "a"), ints(1, 2, 3)...), v, names("a"), mapOf(names("a", "b", "a"), v, tree.Int(2), tree.Int(3)), true)
	put(t, mapOf(names("o", "i"), mapOf(names("a", "b"), tree.List())), v, names("o", "a"), mapOf(names("o"), mapOf(names("a"), v)), true)
	put(t, mapOf(names("o", "i"), tree.List(tree.Map(), tree.Null())), v, names("o", "0", "k"), mapOf(names("o"), tree.List(mapOf(names("k"), v), tree.Null())), true)
	put(t, node{Kind: api.List, N: 2, S: "s", K: names("k"), L: ints(1, 2)}, v, names("1"), node{Kind: api.List, N: 2, S: "s", K: names("k"), L: []node{tree.Int(1), v}}, true)
	put(t, node{Kind: api.Map, N: 2, S: "s", K: names("k"), L: ints(1)}, v, names("k"), node{Kind: api.Map, N: 2, S: "s", K: names("k"), L: []node{v}}, true)
}

func TestP8_1WhatIsHandedInIsNotChanged(t *testing.T) {
	room := append(ints(1, 2, 3), tree.Text("spare"))
	n := mapOf(names("l", "m"), node{Kind: api.List, L: room[:3]}, mapOf(names("x")[:1:1], room[0]))
	before := []node{n.L[0], n.L[1], room[0], room[1], room[2], room[3]}
	way := names("l", "1", "spare")
	first, _ := trail.Put(n, tree.Null(), way[:2]...)
	second, _ := trail.Put(n, tree.Bool(true), "l", "2")
	trail.Put(n, tree.Null(), "m", "x")
	trail.Put(n, tree.Null(), "m", "y")
	trail.Put(n, tree.Null(), "z")
	if !reflect.DeepEqual([]node{n.L[0], n.L[1], room[0], room[1], room[2], room[3]}, before) || !slices.Equal(way, names("l", "1", "spare")) || len(n.K) != 2 {
		t.Errorf("%+v", n)
	}
	at(t, first, names("l", "1"), tree.Null(), true)
	at(t, first, names("l", "2"), tree.Int(3), true)
	at(t, second, names("l", "1"), tree.Int(2), true)
}

var ways = map[string][]string{
	"": nil, "/": {""}, "//": {"", ""}, "/a": {"a"}, "/a/b": {"a", "b"}, "/a~1b/~0": {"a/b", "~"}, "/~01": {"~1"}, "/~00": {"~0"}, "/~1~0": {"/~"}, "/~0~1": {"~/"}, "/~0~0~1~1": {"~~//"}, "/~11": {"/1"}, "/ /0/-1": {" ", "0", "-1"}, "/\xff\x00": {"\xff\x00"}, "/\u00e9/": {"\u00e9", ""}, "///": {"", "", ""}, "/~001": {"~01"},
}

func TestP8_2WriteAndRead(t *testing.T) {
	for way, l := range ways {
		if got := trail.Write(l...); got != way {
			t.Errorf("Write(%q): %q, not %q", l, got, way)
		}
		if got, e := trail.Read(way); !slices.Equal(got, l) || e != api.OK {
			t.Errorf("Read(%q): %q, %d", way, got, e)
		}
	}
}

func TestP8_2NoWays(t *testing.T) {
	for _, way := range []string{"a", "a/b", " ", " /", "~0", "~1", "~", "~1a", "/~", "/~2", "/~/", "/a~", "/~~", "/~~0", "/~~1", "/~a", "/~0/~", "/~/0", "/~0~", "/~\xff", "/x/~3/y", "\xff"} {
		if l, e := trail.Read(way); l != nil || e != api.ErrForm {
			t.Errorf("Read(%q): %q, %d", way, l, e)
		}
	}
}

func TestP8_2AllShortTexts(t *testing.T) {
	seen := map[string]int{}
	var look func(s string, more int)
	look = func(s string, more int) {
		l, e := trail.Read(s)
		// A way begins with /, and behind each ~ there is 0 or 1.
		rest := strings.NewReplacer("~0", "", "~1", "").Replace(s)
		want := s == "" || s[0] == '/' && !strings.Contains(rest, "~")
		if (e == api.OK) != want || want && trail.Write(l...) != s || e != api.OK && (e != api.ErrForm || l != nil) {
			t.Errorf("Read(%q): %q, %d", s, l, e)
		}
		if e == api.OK {
			seen[strconv.Itoa(len(l))+strings.Join(l, "\n")]++
		}
		for _, c := range []string{"/", "~", "0", "1", "a"} {
			if more > 0 {
				look(s+c, more-1)
			}
		}
	}
	look("", 7)
	for l, n := range seen {
		if n != 1 {
			t.Errorf("%d ways of %q", n, l)
		}
	}
}

func TestP8_2WhatIsHandedInIsNotChanged(t *testing.T) {
	l := names("a/b", "~", "spare")
	trail.Write(l[:2]...)
	if !slices.Equal(l, names("a/b", "~", "spare")) {
		t.Error(l)
	}
}

// told is what All tells.
type told struct {
	ways  []string
	nodes []node
}

func all(n node) told {
	var l told
	for way, m := range trail.All(n) {
		l.ways, l.nodes = append(l.ways, way), append(l.nodes, m)
	}
	return l
}

// nodesOf are those that tree's All tells.
func nodesOf(n node) []node { return slices.Collect(tree.All(n)) }

func TestP8_3All(t *testing.T) {
	n := mapOf(names("b", "", "a/~"), tree.List(tree.Int(1), tree.List(tree.Int(2)), mapOf(names("x", "0"), ints(3, 4)...)), tree.Null(), tree.Map())
	want := names("", "/b", "/b/0", "/b/1", "/b/1/0", "/b/2", "/b/2/x", "/b/2/0", "/", "/a~1~0")
	got := all(n)
	if !slices.Equal(got.ways, want) || !slices.EqualFunc(got.nodes, nodesOf(n), tree.Exact) {
		t.Errorf("%q, %+v", got.ways, got.nodes)
	}
	seq := trail.All(n)
	for leave := 1; leave <= len(want); leave++ {
		seen := 0
		for way := range seq {
			if way != want[seen] {
				t.Errorf("%d: %q", seen, way)
			}
			if seen++; seen == leave {
				break
			}
		}
		if seen != leave {
			t.Errorf("left at %d: %d", leave, seen)
		}
	}
	for _, n := range []node{tree.Null(), tree.Int(4), tree.Text("a"), tree.List(), tree.Map(), tree.Bool(true)} {
		if got := all(n); !slices.Equal(got.ways, names("")) || !tree.Exact(got.nodes[0], n) {
			t.Errorf("%+v: %+v", n, got)
		}
	}
	var long node
	long.Kind = api.List
	for i := range 12 {
		long.L = append(long.L, tree.Int(int64(i)))
	}
	if got := all(long); got.ways[10] != "/9" || got.ways[12] != "/11" {
		t.Error(got.ways)
	}
}

// in is a node in so many lists.
func in(lists int, n node) node {
	for range lists {
		n = tree.List(n)
	}
	return n
}

func TestP8_3OfWhatMayNotBe(t *testing.T) {
	for _, n := range []node{{}, {Kind: 9, L: ints(1)}, mapOf(names("a")), mapOf(names("a"), ints(1, 2)...), mapOf(names("a", "a"), ints(1, 2)...), tree.List(tree.Int(1), tree.Text("\xff")), tree.List(tree.List(tree.Int(1 << 53))), in(64, tree.Null()), in(100000, tree.Null()), {Kind: api.List, K: names("a"), L: ints(1)}} {
		if got := all(n); !slices.Equal(got.ways, names("")) || !tree.Exact(got.nodes[0], n) {
			t.Errorf("%+v: %q", n.Kind, got.ways)
		}
		for range trail.All(n) {
			break
		}
	}
	if got := all(in(63, tree.Null())); len(got.ways) != 64 || got.ways[63] != strings.Repeat("/0", 63) {
		t.Error(len(got.ways))
	}
}

func TestP8_3AsTheyStandWhenTheRangeBegins(t *testing.T) {
	n := tree.List(tree.Int(1), tree.Int(1<<53))
	seq := trail.All(n)
	n.L[1] = tree.List(tree.Null())
	var got []string
	for way := range seq {
		got = append(got, way)
	}
	if !slices.Equal(got, names("", "/0", "/1", "/1/0")) {
		t.Error(got)
	}
}

// grow makes some node that may be.
func grow(r *rand.Rand, deep int) node {
	switch kind := r.Intn(4); {
	case deep == 0 || kind == 0:
		return tree.Int(int64(r.Intn(9)))
	case kind == 1:
		l := tree.List()
		for range r.Intn(4) {
			l.L = append(l.L, grow(r, deep-1))
		}
		return l
	}
	m := tree.Map()
	for range r.Intn(4) {
		m = tree.Put(m, []string{"a", "b", "0", "1", "", "~", "/", "~1", "a/b"}[r.Intn(9)], grow(r, deep-1))
	}
	return m
}

func TestP8_4WhatFollows(t *testing.T) {
	r := rand.New(rand.NewSource(84))
	for range 1000 {
		n := grow(r, 5)
		seen := map[string]bool{}
		var nodes []node
		for way, m := range trail.All(n) {
			l, e := trail.Read(way)
			if e != api.OK || seen[way] {
				t.Errorf("%q: %d", way, e)
			}
			seen[way] = true
			nodes = append(nodes, m)
			at(t, n, l, m, true)
			v := grow(r, 2)
			for _, to := range [][]string{l, append(slices.Clone(l), "a"), append(slices.Clone(l), "1")} {
				got, ok := trail.Put(n, v, to...)
				_, isThere := trail.At(n, to...)
				isNew := len(to) > len(l) && m.Kind == api.Map
				if ok != (isThere || isNew) {
					t.Errorf("Put(%q): %v", to, ok)
				}
				if ok {
					at(t, got, to, v, true)
				} else {
					is(t, "n", got, n)
				}
			}
		}
		if !slices.EqualFunc(nodes, nodesOf(n), tree.Exact) {
			t.Errorf("%+v", n)
		}
	}
}

func TestP7WhateverComes(t *testing.T) {
	deep := in(1000000, tree.Null())
	var way []string
	for range 1000001 {
		way = append(way, "0")
	}
	at(t, deep, way[:1000000], tree.Null(), true)
	at(t, deep, way, node{}, false)
	if n, ok := trail.Put(deep, tree.Int(1), way[:1000000]...); !ok || tree.Depth(n) != 1000001 {
		t.Error("deep Put")
	}
	if _, ok := trail.Put(deep, tree.Int(1), way...); ok {
		t.Error("deep Put")
	}
	trail.Read(strings.Repeat("/~", 100000))
	trail.Read(trail.Write(way...))
}
