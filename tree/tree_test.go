package tree_test

import (
	"math"
	"reflect"
	"runtime/debug"
	"slices"
	"strconv"
	"testing"

	"sealring/api"
	"sealring/tree"
)

type node = api.Node

// is holds two nodes against each other in all fields, without the package's own means.
func is(t *testing.T, what string, got, want node) {
	t.Helper()
	if !alike(got, want) {
		t.Errorf("%s: %+v, not %+v", what, got, want)
	}
}

func alike(a, b node) bool {
	return a.Kind == b.Kind && a.N == b.N && a.S == b.S && slices.Equal(a.K, b.K) && slices.EqualFunc(a.L, b.L, alike)
}

// in is a node in so many lists.
func in(lists int, n node) node {
	for range lists {
		n = node{Kind: api.List, L: []node{n}}
	}
	return n
}

// mapOf is a Map as its fields have it.
func mapOf(keys []string, values ...node) node { return node{Kind: api.Map, K: keys, L: values} }

func ints(l ...int64) []node {
	var out []node
	for _, n := range l {
		out = append(out, node{Kind: api.Int, N: n})
	}
	return out
}

func TestP7_1EachKind(t *testing.T) {
	is(t, "Null", tree.Null(), node{Kind: 1})
	is(t, "Bool", tree.Bool(true), node{Kind: 2, N: 1})
	is(t, "Bool", tree.Bool(false), node{Kind: 2})
	for _, n := range []int64{0, 1, -1, api.MaxInt, math.MaxInt64, math.MinInt64} {
		is(t, "Int", tree.Int(n), node{Kind: 3, N: n})
	}
	for _, s := range []string{"", "a", "\xff", "a\x00b"} {
		is(t, "Text", tree.Text(s), node{Kind: 4, S: s})
	}
	is(t, "List", tree.List(), node{Kind: 5})
	is(t, "List", tree.List(tree.Int(1), tree.Text("a"), node{}), node{Kind: 5, L: []node{{Kind: 3, N: 1}, {Kind: 4, S: "a"}, {}}})
	is(t, "Map", tree.Map(), node{Kind: 6})
	is(t, "Map", tree.Map(tree.Text("a"), tree.Int(1)), mapOf([]string{"a"}, ints(1)...))
}

func TestP7_1MapTakesTwoByTwo(t *testing.T) {
	is(t, "one", tree.Map(tree.Text("a")), node{Kind: 6})
	is(t, "three", tree.Map(tree.Text("b"), tree.Int(1), tree.Text("a")), mapOf([]string{"b"}, ints(1)...))
	is(t, "four", tree.Map(tree.Text("b"), tree.Int(1), tree.Text("a"), tree.Int(2)), mapOf([]string{"b", "a"}, ints(1, 2)...))
	is(t, "twice", tree.Map(tree.Text("a"), tree.Int(1), tree.Text("a"), tree.Int(2)), mapOf([]string{"a", "a"}, ints(1, 2)...))
	is(t, "others' S", tree.Map(tree.Int(7), tree.Int(1), node{Kind: 9, S: "x"}, tree.Text("y")), mapOf([]string{"", "x"}, node{Kind: 3, N: 1}, node{Kind: 4, S: "y"}))
}

func TestP7_1WhatIsHandedInIsNotKept(t *testing.T) {
	l := []node{tree.Text("a"), tree.Int(1), tree.Int(9)}
	list, dict := tree.List(l[:2]...), tree.Map(l[:2]...)
	l[0], l[1] = tree.Null(), tree.Null()
	is(t, "List", list, node{Kind: 5, L: []node{{Kind: 4, S: "a"}, {Kind: 3, N: 1}}})
	is(t, "Map", dict, mapOf([]string{"a"}, ints(1)...))
	is(t, "the spare room", l[2], tree.Int(9))
}

func checks(t *testing.T, n node, want api.Errno) {
	t.Helper()
	if e := tree.Check(n); e != want {
		t.Errorf("Check(%+v): %d, not %d", n, e, want)
	}
}

func TestP7_2WhatMayBe(t *testing.T) {
	one := ints(1)
	for _, n := range []node{
		{Kind: 1}, {Kind: 2}, {Kind: 2, N: 1}, {Kind: 3}, {Kind: 3, N: api.MaxInt}, {Kind: 3, N: -api.MaxInt}, {Kind: 4}, {Kind: 4, S: "\u00e9\x00"}, {Kind: 5}, {Kind: 6}, {Kind: 5, L: one}, {Kind: 1, K: []string{}, L: []node{}},
		mapOf([]string{"b", "a", ""}, ints(1, 2, 3)...), mapOf([]string{"a"}, mapOf([]string{"a"}, mapOf([]string{"a"}, one...))), {Kind: 5, L: []node{{Kind: 5, L: one}, {Kind: 5, L: one}}},
	} {
		checks(t, n, api.OK)
	}
}

func TestP7_2Kinds(t *testing.T) {
	for _, kind := range []int{0, -1, 7, 8, 100, math.MinInt, math.MaxInt} {
		checks(t, node{Kind: kind}, api.ErrKind)
		checks(t, tree.List(node{Kind: kind}), api.ErrKind)
	}
	more := map[string]node{"N": {N: 1}, "less": {N: -1}, "S": {S: "a"}, "L": {L: ints(1)}, "K": {K: []string{"a"}}}
	has := map[int]string{api.Bool: "N", api.Int: "N", api.Text: "S", api.List: "L"}
	for kind := api.Null; kind <= api.Map; kind++ {
		for what, n := range more {
			n.Kind = kind
			want := api.ErrKind
			switch {
			case what == "less" && kind == api.Bool:
				want = api.ErrRange
			case what == "L" && kind == api.Map || what == "K" && kind == api.Map:
				want = api.ErrArg
			case what == has[kind] || kind == api.Int && what == "less":
				want = api.OK
			}
			checks(t, n, want)
		}
	}
}

func TestP7_2RangesAndTexts(t *testing.T) {
	for _, n := range []int64{2, -1, 256, math.MaxInt64, math.MinInt64} {
		checks(t, node{Kind: api.Bool, N: n}, api.ErrRange)
	}
	for _, n := range []int64{1 << 53, -1 << 53, math.MaxInt64, math.MinInt64} {
		checks(t, tree.Int(n), api.ErrRange)
	}
	for _, s := range []string{"\xff", "a\xc3", "\xed\xa0\x80"} {
		checks(t, tree.Text(s), api.ErrText)
		checks(t, tree.Map(tree.Text(s), tree.Null()), api.ErrText)
		checks(t, tree.Map(tree.Text("a"), tree.Text(s)), api.ErrText)
	}
}

func TestP7_2KeysAndValues(t *testing.T) {
	checks(t, mapOf([]string{"a"}), api.ErrArg)
	checks(t, mapOf(nil, tree.Null()), api.ErrArg)
	checks(t, mapOf([]string{"a", "b"}, tree.Null()), api.ErrArg)
	checks(t, mapOf([]string{"a", "a"}, ints(1, 1)...), api.ErrTwice)
	checks(t, mapOf([]string{"a", "b", "a"}, ints(1, 2, 3)...), api.ErrTwice)
	checks(t, mapOf([]string{"", ""}, ints(1, 2)...), api.ErrTwice)
	checks(t, tree.List(mapOf([]string{"a"}, ints(1)...), mapOf([]string{"a"}, ints(1)...)), api.OK)
}

func TestP7_2TheFirstIsTold(t *testing.T) {
	bad := node{Kind: 7, S: "\xff", L: ints(1 << 53)}
	checks(t, bad, api.ErrKind)
	checks(t, node{Kind: api.Bool, N: 2, S: "a"}, api.ErrKind)
	checks(t, node{Kind: api.Int, N: 1 << 53, K: []string{"a"}}, api.ErrKind)
	checks(t, node{Kind: api.Text, S: "\xff", N: 1}, api.ErrKind)
	checks(t, node{Kind: api.Map, K: []string{"\xff"}, S: "a"}, api.ErrKind)
	checks(t, node{Kind: api.List, N: 1, L: []node{tree.Int(1 << 53)}}, api.ErrKind)
	checks(t, mapOf([]string{"\xff", "\xff"}, tree.Int(1<<53)), api.ErrArg)
	checks(t, mapOf([]string{"\xff", "\xff"}, tree.Int(1<<53), tree.Int(1)), api.ErrText)
	checks(t, mapOf([]string{"a", "\xff"}, tree.Int(1<<53), bad), api.ErrRange)
	checks(t, mapOf([]string{"a", "a"}, tree.Int(1<<53), bad), api.ErrRange)
	checks(t, mapOf([]string{"a", "a"}, tree.Int(1), bad), api.ErrTwice)
	checks(t, mapOf([]string{"a", "b"}, tree.Text("\xff"), bad), api.ErrText)
	checks(t, tree.List(tree.Int(1), tree.Int(1<<53), bad), api.ErrRange)
	checks(t, tree.List(tree.List(tree.Text("\xff")), tree.Int(1<<53)), api.ErrText) // what stands within the left one is ahead of the right one
	checks(t, tree.List(tree.Map(tree.Text("a"), bad), tree.Int(1<<53)), api.ErrKind)
}

func TestP7_2Depth(t *testing.T) {
	checks(t, in(63, tree.Null()), api.OK)
	checks(t, in(64, tree.Null()), api.ErrDeep)
	checks(t, in(64, node{Kind: 9}), api.ErrDeep)
	checks(t, in(63, node{Kind: 9}), api.ErrKind)
	checks(t, in(63, tree.List()), api.OK)
	checks(t, in(62, tree.Map(tree.Text("a"), tree.Null())), api.OK)
	checks(t, in(63, tree.Map(tree.Text("a"), tree.Null())), api.ErrDeep)
	checks(t, in(63, tree.Map(tree.Text("\xff"), tree.Null())), api.ErrText)
	checks(t, in(63, mapOf([]string{"a"})), api.ErrArg)
	checks(t, tree.List(tree.Int(1<<53), in(100, tree.Null())), api.ErrRange)
	checks(t, tree.List(in(100, tree.Null()), tree.Int(1<<53)), api.ErrDeep)
	checks(t, in(1000000, tree.Null()), api.ErrDeep)
}

func TestP7_3Exact(t *testing.T) {
	l := []node{
		{}, {Kind: 1}, {Kind: 2}, {Kind: 2, N: 1}, {Kind: 3}, {Kind: 3, N: 1}, {Kind: 3, N: -1}, {Kind: 4}, {Kind: 4, S: "a"}, {Kind: 4, S: "\xff"}, {Kind: 1, S: "a"}, {Kind: 5}, {Kind: 6}, {Kind: 6, N: 1}, {Kind: 6, S: "a"},
		mapOf([]string{"a"}), mapOf(nil, ints(1)...), mapOf([]string{"a"}, ints(1)...), mapOf([]string{"a"}, ints(2)...), mapOf([]string{"b"}, ints(1)...), mapOf([]string{"a", "b"}, ints(1, 2)...), mapOf([]string{"b", "a"}, ints(2, 1)...), mapOf([]string{"a", "b"}, ints(1)...), mapOf([]string{"a"}, ints(1, 2)...),
		{Kind: 5, L: ints(1)}, {Kind: 5, L: ints(1, 2)}, {Kind: 5, L: ints(2, 1)}, {Kind: 5, L: []node{{Kind: 5, L: ints(1)}}}, {Kind: 5, L: []node{{Kind: 5, L: ints(2)}}}, {Kind: 5, L: []node{{Kind: 5, L: ints(1)}, {Kind: 5, L: ints(1)}}}, {Kind: 5, L: []node{{Kind: 5, L: ints(1)}, {Kind: 5, L: ints(2)}}}, {Kind: 5, L: []node{{Kind: 5, L: ints(1, 1)}, {Kind: 5}}}, {Kind: 5, L: []node{{Kind: 5}, {Kind: 5, L: ints(1, 1)}}}, {Kind: 5, K: []string{"a"}},
		in(3, mapOf([]string{"a"}, ints(1)...)), in(3, mapOf([]string{"a"}, ints(2)...)), in(4, mapOf([]string{"a"}, ints(1)...)), {Kind: 3, L: ints(1)}, {Kind: 3, L: ints(2)},
	}
	for i, a := range l {
		for j, b := range l {
			if got := tree.Exact(a, b); got != (i == j) {
				t.Errorf("Exact(%+v, %+v): %v", a, b, got)
			}
		}
	}
	if !tree.Exact(node{Kind: 6, K: []string{}, L: []node{}}, node{Kind: 6}) || !tree.Exact(tree.List(node{Kind: 5}), tree.List(node{Kind: 5, K: []string{}, L: []node{}})) {
		t.Error("nil and empty ones")
	}
}

func TestP7_3Sorted(t *testing.T) {
	inner := mapOf([]string{"z", "y"}, ints(1, 2)...)
	innerSorted := mapOf([]string{"y", "z"}, ints(2, 1)...)
	for _, c := range []struct{ n, want node }{
		{node{}, node{}},
		{tree.Int(5), tree.Int(5)},
		{tree.List(ints(3, 1, 2)...), tree.List(ints(3, 1, 2)...)},
		{tree.List(tree.Text("b"), tree.Text("a")), tree.List(tree.Text("b"), tree.Text("a"))},
		{mapOf([]string{"c", "a", "b"}, ints(1, 2, 3)...), mapOf([]string{"a", "b", "c"}, ints(2, 3, 1)...)},
		{mapOf([]string{"\U0001f600", "\uffff", "\xff", "", "a", "Z", "aa"}, ints(1, 2, 3, 4, 5, 6, 7)...), mapOf([]string{"", "Z", "a", "aa", "\uffff", "\U0001f600", "\xff"}, ints(4, 6, 5, 7, 2, 1, 3)...)},
		{mapOf([]string{"b", "a", "b", "a", "b"}, ints(1, 2, 3, 4, 5)...), mapOf([]string{"a", "a", "b", "b", "b"}, ints(2, 4, 1, 3, 5)...)},
		{mapOf([]string{"b", "a"}, inner, tree.List(inner, tree.Null(), inner)), mapOf([]string{"a", "b"}, tree.List(innerSorted, tree.Null(), innerSorted), innerSorted)},
		{mapOf([]string{"b", "a", "0"}, ints(1, 2)...), mapOf([]string{"a", "b"}, ints(2, 1)...)},
		{mapOf([]string{"b", "a"}, ints(1, 2, 3)...), mapOf([]string{"a", "b"}, ints(2, 1)...)},
		{mapOf([]string{"b"}), mapOf(nil)},
		{mapOf(nil, ints(1)...), mapOf(nil)},
		{node{Kind: 6, N: 4, S: "x", K: []string{"b", "a"}, L: ints(1, 2)}, node{Kind: 6, N: 4, S: "x", K: []string{"a", "b"}, L: ints(2, 1)}},
		{node{Kind: 5, K: []string{"b", "a"}, L: []node{inner}}, node{Kind: 5, K: []string{"b", "a"}, L: []node{innerSorted}}},
		{node{Kind: 4, S: "s", L: []node{inner, {}}}, node{Kind: 4, S: "s", L: []node{innerSorted, {}}}},
	} {
		is(t, "Sorted", tree.Sorted(c.n), c.want)
		is(t, "Sorted again", tree.Sorted(tree.Sorted(c.n)), c.want)
	}
	for _, kind := range []int{api.List, api.Map, api.Text} {
		n := node{Kind: kind, K: []string{"b", "a"}, L: []node{in(2, inner), inner}}
		tree.Sorted(n)
		is(t, "what was handed in", n, node{Kind: kind, K: []string{"b", "a"}, L: []node{in(2, mapOf([]string{"z", "y"}, ints(1, 2)...)), mapOf([]string{"z", "y"}, ints(1, 2)...)}})
	}
}

func TestP7_3SortedOfMany(t *testing.T) {
	var n, want node
	n.Kind, want.Kind = api.Map, api.Map
	for i := range 2000 {
		n.K, n.L = append(n.K, strconv.Itoa(i*7919%1000)), append(n.L, tree.Int(int64(i)))
	}
	places := make([]int, 2000)
	for i := range places {
		places[i] = i
	}
	slices.SortStableFunc(places, func(i, j int) int {
		if n.K[i] < n.K[j] {
			return -1
		} else if n.K[i] > n.K[j] {
			return 1
		}
		return 0
	})
	for _, i := range places {
		want.K, want.L = append(want.K, n.K[i]), append(want.L, n.L[i])
	}
	is(t, "Sorted", tree.Sorted(n), want)
}

func TestP7_3Same(t *testing.T) {
	a := tree.Map(tree.Text("a"), tree.Int(1), tree.Text("b"), tree.List(tree.Map(tree.Text("x"), tree.Null(), tree.Text("y"), tree.Bool(true))))
	b := tree.Map(tree.Text("b"), tree.List(tree.Map(tree.Text("y"), tree.Bool(true), tree.Text("x"), tree.Null())), tree.Text("a"), tree.Int(1))
	if !tree.Same(a, b) || !tree.Same(b, a) || !tree.Same(a, a) || tree.Exact(a, b) {
		t.Error("by the order of keys")
	}
	for _, c := range []node{tree.Put(a, "a", tree.Int(2)), tree.Put(a, "c", tree.Null()), tree.Without(a, "a"), tree.List(a), tree.Null(), {}} {
		if tree.Same(a, c) || tree.Same(c, a) || !tree.Same(c, c) {
			t.Errorf("%+v", c)
		}
	}
	if tree.Same(tree.List(ints(1, 2)...), tree.List(ints(2, 1)...)) {
		t.Error("lists have an order")
	}
	// of what may not be the order of keys counts, too
	for _, bad := range []node{tree.Int(1 << 53), tree.Text("\xff"), {Kind: 9}, mapOf([]string{"k"}), in(70, tree.Null())} {
		x := mapOf([]string{"a", "b"}, tree.Null(), bad)
		y := mapOf([]string{"b", "a"}, bad, tree.Null())
		if tree.Same(x, y) || !tree.Same(x, x) || tree.Same(tree.Null(), bad) || tree.Same(bad, tree.Null()) {
			t.Errorf("with %+v", bad)
		}
	}
	if tree.Same(mapOf([]string{"a", "b"}, ints(1, 2)...), mapOf([]string{"b", "a", "c"}, ints(2, 1)...)) {
		t.Error("what is cut off counts")
	}
	if tree.Same(mapOf([]string{"a", "a"}, ints(1, 1)...), mapOf([]string{"a"}, ints(1)...)) || !tree.Same(mapOf([]string{"a", "a"}, ints(1, 1)...), mapOf([]string{"a", "a"}, ints(1, 1)...)) {
		t.Error("twice")
	}
}

// shapes are trees, with how deep they are and how many nodes they have.
var shapes = []struct {
	n            node
	depth, count int
}{
	{node{}, 1, 1}, {node{Kind: 9, K: []string{"a"}}, 1, 1}, {node{Kind: 5}, 1, 1}, {node{Kind: 5, L: ints(1, 2, 3)}, 2, 4},
	{mapOf([]string{"a", "b"}, node{Kind: 5, L: ints(1)}, node{Kind: 1}), 3, 4},
	{mapOf([]string{"a", "b"}, node{Kind: 1}, node{Kind: 5, L: ints(1)}), 3, 4},
	{mapOf(nil, ints(1, 2)...), 2, 3}, {mapOf([]string{"a", "b"}, ints(1)...), 2, 2},
	{node{Kind: 3, L: []node{{Kind: 4, L: ints(5)}, {}}}, 3, 4},
	{node{Kind: 5, L: []node{{Kind: 5, L: []node{{Kind: 5, L: ints(1)}, {}}}, {Kind: 5, L: ints(1, 2)}}}, 4, 8},
	{in(99, node{}), 100, 100},
}

func TestP7_4DepthAndCount(t *testing.T) {
	for _, s := range shapes {
		if d, c := tree.Depth(s.n), tree.Count(s.n); d != s.depth || c != s.count {
			t.Errorf("%+v: %d, %d", s.n, d, c)
		}
	}
}

func TestP7_4AllGoesThroughThemInOrder(t *testing.T) {
	a := tree.Map(tree.Text("x"), tree.List(tree.Int(1), tree.List(tree.Int(2)), tree.Int(3)), tree.Text("a"), tree.Int(4))
	want := []node{a, a.L[0], tree.Int(1), a.L[0].L[1], tree.Int(2), tree.Int(3), tree.Int(4)}
	seq := tree.All(a)
	for range 2 {
		var got []node
		for n := range seq {
			got = append(got, n)
		}
		if !slices.EqualFunc(got, want, alike) {
			t.Errorf("%+v", got)
		}
	}
	for leave := 1; leave <= len(want); leave++ {
		seen := 0
		for n := range tree.All(a) {
			if !alike(n, want[seen]) {
				t.Errorf("%d: %+v", seen, n)
			}
			seen++
			if seen == leave {
				break
			}
		}
		if seen != leave {
			t.Errorf("left at %d: %d", leave, seen)
		}
	}
	for _, s := range shapes {
		count := 0
		for range tree.All(s.n) {
			count++
		}
		if count != s.count {
			t.Errorf("%+v: %d", s.n, count)
		}
	}
}

// What nests deeper than may be is gone through in the same way.
func TestP7_4AllAtAnyDepth(t *testing.T) {
	a := tree.List(tree.Map(tree.Text("x"), tree.List(tree.Int(1), tree.List(tree.Int(2)), tree.List(), tree.Int(3)), tree.Text("a"), tree.Int(4)), tree.List(tree.Int(5)), tree.Int(6))
	for lists := 55; lists < 75; lists++ {
		// Ahead of what is told last, and behind it, there stands more at each level.
		n, ahead, behind := a, []int64(nil), []int64(nil)
		for i := range int64(lists) {
			n, ahead, behind = tree.List(tree.Int(100+i), n, tree.Int(200+i)), append(ahead, 100+i), append(behind, 200+i)
		}
		slices.Reverse(ahead)
		want := slices.Concat(ahead, []int64{1, 2, 3, 4, 5, 6}, behind)
		var got []int64
		for m := range tree.All(n) {
			if m.Kind == api.Int {
				got = append(got, m.N)
			}
		}
		if !slices.Equal(got, want) || tree.Depth(n) != lists+5 || tree.Count(n) != 3*lists+12 {
			t.Errorf("%d: %d, %d, not in order: %v", lists, tree.Depth(n), tree.Count(n), got)
		}
		for leave := 1; leave <= 3*lists+12; leave++ {
			seen := 0
			for range tree.All(n) {
				if seen++; seen == leave {
					break
				}
			}
			if seen != leave {
				t.Errorf("%d, left at %d: %d", lists, leave, seen)
			}
		}
	}
}

func gets(t *testing.T, n node, key string, want node, ok bool) {
	t.Helper()
	got, is := tree.Get(n, key)
	if !alike(got, want) || is != ok {
		t.Errorf("Get(%+v, %q): %+v, %v", n, key, got, is)
	}
}

func TestP7_4Get(t *testing.T) {
	m := mapOf([]string{"a", "b", "a", ""}, ints(1, 2, 3, 4)...)
	gets(t, m, "a", tree.Int(1), true)
	gets(t, m, "b", tree.Int(2), true)
	gets(t, m, "", tree.Int(4), true)
	gets(t, m, "c", node{}, false)
	gets(t, m, "A", node{}, false)
	gets(t, mapOf(nil), "", node{}, false)
	gets(t, mapOf([]string{"a", "b"}, ints(1)...), "a", tree.Int(1), true)
	gets(t, mapOf([]string{"a", "b"}, ints(1)...), "b", node{}, false)
	gets(t, mapOf([]string{"a"}), "a", node{}, false)
	gets(t, mapOf([]string{"a"}, ints(1, 2)...), "", node{}, false)
	gets(t, mapOf([]string{"a", "\xff"}, node{}, tree.Int(2)), "a", node{}, true)
	gets(t, mapOf([]string{"a", "\xff"}, node{}, tree.Int(2)), "\xff", tree.Int(2), true)
	for _, kind := range []int{0, 1, 2, 3, 4, 5, 7} {
		gets(t, node{Kind: kind, K: []string{"a"}, L: ints(1)}, "a", node{}, false)
	}
}

func TestP7_4Put(t *testing.T) {
	v := tree.Int(9)
	for _, c := range []struct {
		n    node
		key  string
		want node
	}{
		{mapOf(nil), "a", mapOf([]string{"a"}, v)},
		{mapOf([]string{"b", "a"}, ints(1, 2)...), "b", mapOf([]string{"b", "a"}, v, tree.Int(2))},
		{mapOf([]string{"b", "a"}, ints(1, 2)...), "a", mapOf([]string{"b", "a"}, tree.Int(1), v)},
		{mapOf([]string{"b", "a"}, ints(1, 2)...), "", mapOf([]string{"b", "a", ""}, tree.Int(1), tree.Int(2), v)},
		{mapOf([]string{"a", "b", "a"}, ints(1, 2, 3)...), "a", mapOf([]string{"a", "b", "a"}, v, tree.Int(2), tree.Int(3))},
		{mapOf([]string{"a", "b"}, ints(1)...), "b", mapOf([]string{"a", "b"}, tree.Int(1), v)},
		{mapOf([]string{"a", "b", "c"}, ints(1)...), "c", mapOf([]string{"a", "c"}, tree.Int(1), v)},
		{mapOf([]string{"a", "b"}, ints(1)...), "a", mapOf([]string{"a"}, v)},
		{mapOf([]string{"a"}, ints(1, 2)...), "b", mapOf([]string{"a", "b"}, tree.Int(1), v)},
		{mapOf([]string{"a"}, ints(1, 2)...), "a", mapOf([]string{"a"}, v)},
		{mapOf([]string{"a"}), "a", mapOf([]string{"a"}, v)},
		{node{Kind: 6, N: 3, S: "s", K: []string{"a"}, L: ints(1)}, "b", node{Kind: 6, N: 3, S: "s", K: []string{"a", "b"}, L: ints(1, 9)}},
		{node{Kind: 6, N: 3, S: "s", K: []string{"a"}, L: ints(1)}, "a", node{Kind: 6, N: 3, S: "s", K: []string{"a"}, L: ints(9)}},
	} {
		is(t, "Put "+c.key, tree.Put(c.n, c.key, v), c.want)
	}
	for _, kind := range []int{0, 1, 2, 3, 4, 5, 7} {
		n := node{Kind: kind, N: 1, S: "s", K: []string{"a", "b"}, L: ints(1)}
		is(t, "Put of others", tree.Put(n, "a", v), n)
		is(t, "Without of others", tree.Without(n, "a", "b"), n)
	}
}

func TestP7_4Without(t *testing.T) {
	m := mapOf([]string{"a", "b", "a", "c"}, ints(1, 2, 3, 4)...)
	for _, c := range []struct {
		n    node
		keys []string
		want node
	}{
		{m, nil, m},
		{m, []string{"x", ""}, m},
		{m, []string{"a"}, mapOf([]string{"b", "c"}, ints(2, 4)...)},
		{m, []string{"c", "b", "c"}, mapOf([]string{"a", "a"}, ints(1, 3)...)},
		{m, []string{"c", "b", "a"}, mapOf(nil)},
		{mapOf([]string{"a", "b"}, ints(1)...), nil, mapOf([]string{"a"}, ints(1)...)},
		{mapOf([]string{"a", "b"}, ints(1)...), []string{"a"}, mapOf(nil)},
		{mapOf([]string{"a"}, ints(1, 2)...), []string{""}, mapOf([]string{"a"}, ints(1)...)},
		{node{Kind: 6, N: 3, S: "s", K: []string{"a"}, L: ints(1)}, []string{"a"}, node{Kind: 6, N: 3, S: "s"}},
	} {
		is(t, "Without", tree.Without(c.n, c.keys...), c.want)
	}
}

func TestP7_4WhatIsHandedInIsNotChanged(t *testing.T) {
	keys, values := []string{"b", "a", "b", "spare"}, ints(1, 2, 3, 4)
	n := mapOf(keys[:3], values[:3]...)
	n.L[1] = mapOf([]string{"z", "y"}, ints(5, 6)...)
	same := func(what string) {
		t.Helper()
		if !reflect.DeepEqual(keys, []string{"b", "a", "b", "spare"}) || !reflect.DeepEqual(values, []node{tree.Int(1), mapOf([]string{"z", "y"}, ints(5, 6)...), tree.Int(3), tree.Int(4)}) {
			t.Fatalf("%s changes %v, %v", what, keys, values)
		}
	}
	tree.Put(n, "c", tree.Int(9))
	same("Put behind all")
	tree.Put(n, "b", tree.Int(9))
	same("Put in a place")
	names := []string{"b", "x", "spare"}
	tree.Without(n, names[:2]...)
	same("Without")
	tree.Sorted(n)
	same("Sorted")
	tree.Same(n, n)
	tree.Same(tree.Without(n, "b"), tree.Without(n, "b"))
	same("Same")
	if !slices.Equal(names, []string{"b", "x", "spare"}) {
		t.Error(names)
	}
	a, b := tree.Put(n, "c", tree.Int(1)), tree.Put(n, "d", tree.Int(2)) // neither writes into what the other one answered
	gets(t, a, "c", tree.Int(1), true)
	gets(t, b, "d", tree.Int(2), true)
	c, d := tree.Put(a, "e", tree.Int(3)), tree.Put(a, "f", tree.Int(4))
	gets(t, c, "e", tree.Int(3), true)
	gets(t, d, "f", tree.Int(4), true)
}

func TestP7_5WhatFollows(t *testing.T) {
	maps := []node{mapOf(nil), mapOf([]string{"a"}, ints(1)...), mapOf([]string{"b", "a", "b"}, ints(1, 2, 3)...), mapOf([]string{"b", "a"}, ints(1)...), mapOf([]string{"b"}, ints(1, 2)...)}
	for _, m := range maps {
		for _, key := range []string{"", "a", "b", "c", "\xff"} {
			for _, v := range []node{{}, tree.Int(7), m} {
				gets(t, tree.Put(m, key, v), key, v, true)
				gets(t, tree.Without(tree.Put(m, key, v), key), key, node{}, false)
				is(t, "put twice", tree.Put(tree.Put(m, key, tree.Null()), key, v), tree.Put(m, key, v))
			}
			gets(t, tree.Without(m, "x", key), key, node{}, false)
		}
	}
	keys := []string{"a", "b", "c", "d"}
	first := mapOf(keys, ints(1, 2, 3, 4)...)
	for i := range 24 { // each order of the keys
		left := slices.Clone(keys)
		m := mapOf(nil)
		for n := 4; n > 0; n-- {
			at := i % n
			i /= n
			v, _ := tree.Get(first, left[at])
			m = tree.Put(m, left[at], v)
			left = slices.Delete(left, at, at+1)
		}
		if !tree.Same(first, m) || !tree.Same(tree.List(m), tree.List(first)) || !tree.Exact(tree.Sorted(m), first) || tree.Same(m, tree.Put(first, "a", tree.Int(0))) {
			t.Errorf("%+v", m)
		}
	}
}

func TestP7WhateverComes(t *testing.T) {
	// How deep a tree is must not tell on the stack.
	defer debug.SetMaxStack(debug.SetMaxStack(1 << 20))
	strange := []node{{}, {Kind: -1, N: math.MinInt64, S: "\xff", K: []string{"a", "a"}, L: []node{{Kind: 77}}}, {Kind: 6, K: []string{"a", "\xff"}, L: []node{{Kind: 5, K: []string{"b"}}}}, {Kind: 6, L: make([]node, 3)}, {Kind: 6, K: make([]string, 3)}, in(1000000, tree.Null())}
	long := tree.Null()
	for range 300000 { // what nests deep at its left
		long = node{Kind: api.List, L: []node{long, {}}}
	}
	strange = append(strange, long)
	for _, n := range strange {
		tree.Check(n)
		tree.Depth(n)
		tree.Count(n)
		tree.Get(n, "a")
		tree.Put(n, "a", n)
		tree.Without(n, "a", "b")
		if !tree.Exact(n, n) || tree.Count(tree.Sorted(n)) > tree.Count(n) {
			t.Error(n.Kind)
		}
		tree.Same(n, strange[0])
		for range tree.All(n) {
		}
		tree.Map(n, n, n)
		tree.List(n, n)
	}
	if tree.Depth(in(1000000, tree.Null())) != 1000001 || tree.Count(long) != 600001 {
		t.Error("deep ones")
	}
}
