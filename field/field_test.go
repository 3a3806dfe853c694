package field_test

import (
	"math"
	"slices"
	"strings"
	"testing"

	"sealring/api"
	"sealring/field"
	"sealring/tree"
)

type node = api.Node
type rule = api.Rule

func mapOf(keys []string, values ...node) node { return node{Kind: api.Map, K: keys, L: values} }

func names(l ...string) []string { return l }

func rulesAre(t *testing.T, what string, got []rule, want ...rule) {
	t.Helper()
	if !slices.Equal(got, want) {
		t.Errorf("%s: %+v, not %+v", what, got, want)
	}
}

func TestP29_1MustAndMay(t *testing.T) {
	for _, kind := range []int{0, 1, 4, 6, 77, -1, math.MinInt} {
		rulesAre(t, "Must", field.Must(kind, "b", "a", "b", ""), rule{Name: "b", Kind: kind, Must: true}, rule{Name: "a", Kind: kind, Must: true}, rule{Name: "b", Kind: kind, Must: true}, rule{Kind: kind, Must: true})
		rulesAre(t, "May", field.May(kind, "b", "a", "b", ""), rule{Name: "b", Kind: kind}, rule{Name: "a", Kind: kind}, rule{Name: "b", Kind: kind}, rule{Kind: kind})
		rulesAre(t, "Must of none", field.Must(kind))
		rulesAre(t, "May of none", field.May(kind))
	}
}

func TestP29_1MostAndLow(t *testing.T) {
	l := []rule{{Name: "a", Kind: 4, Must: true, Most: 7, Low: true}, {Name: "b"}, {Name: "spare"}}
	for _, most := range []int{0, 1, 255, -1, math.MaxInt} {
		rulesAre(t, "Most", field.Most(most, l[:2]...), rule{Name: "a", Kind: 4, Must: true, Most: most, Low: true}, rule{Name: "b", Most: most})
	}
	rulesAre(t, "Low", field.Low(l[:2]...), rule{Name: "a", Kind: 4, Must: true, Most: 7, Low: true}, rule{Name: "b", Low: true})
	rulesAre(t, "of none", field.Most(3))
	rulesAre(t, "of none", field.Low())
	rulesAre(t, "both", field.Low(field.Most(3, field.Must(3, "x")...)...), rule{Name: "x", Kind: 3, Must: true, Most: 3, Low: true})
	rulesAre(t, "what was handed in", l, rule{Name: "a", Kind: 4, Must: true, Most: 7, Low: true}, rule{Name: "b"}, rule{Name: "spare"})
	first := field.Most(1, l[:1]...)
	field.Low(first...)
	rulesAre(t, "what was answered", first, rule{Name: "a", Kind: 4, Must: true, Most: 1, Low: true})
}

func checks(t *testing.T, n node, want string, e api.Errno, l ...rule) {
	t.Helper()
	if got, f := field.Check(n, l...); got != want || f != e {
		t.Errorf("Check(%+v, %+v): %q, %d, not %q, %d", n, l, got, f, want, e)
	}
}

// ofKinds is a node of each kind.
var ofKinds = []node{{}, tree.Null(), tree.Bool(true), tree.Int(3), tree.Text("abc"), tree.List(tree.Null(), tree.Null(), tree.Null()), mapOf(names("a", "b", "c"), tree.Null(), tree.Null(), tree.Null()), {Kind: 7}}

func TestP29_2NoMap(t *testing.T) {
	for _, n := range ofKinds {
		if n.Kind != api.Map {
			n.K, n.L = names("a"), []node{tree.Int(1)}
			checks(t, n, "", api.ErrType)
			checks(t, n, "", api.ErrType, field.Must(0, "a")...)
			checks(t, n, "", api.ErrType, field.Must(0, "b")...)
		}
	}
	checks(t, tree.Map(), "", api.OK)
	checks(t, mapOf(names("a"), tree.Int(-1)), "", api.OK)
}

func TestP29_2WhatMustBeThere(t *testing.T) {
	n := mapOf(names("a", "", "\xff"), tree.Int(1), tree.Text("x"), node{})
	for _, name := range names("a", "", "\xff") {
		checks(t, n, "", api.OK, field.Must(0, name)...)
		checks(t, n, "", api.OK, field.May(0, name)...)
	}
	for _, name := range names("b", "A", "a ", "\xfe") {
		checks(t, n, name, api.ErrField, field.Must(0, name)...)
		checks(t, n, name, api.ErrField, field.Most(1, field.Low(field.Must(3, name)...)...)...)
		checks(t, n, "", api.OK, field.Most(1, field.Low(field.May(3, name)...)...)...)
	}
	checks(t, mapOf(names("a", "b"), tree.Int(1)), "b", api.ErrField, field.Must(3, "a", "b")...)
	checks(t, mapOf(nil, tree.Int(1)), "", api.ErrField, field.Must(0, "")...)
	checks(t, mapOf(names("a", "a"), tree.Int(1), tree.Text("")), "a", api.ErrType, field.Must(4, "a")...)
	checks(t, mapOf(names("a", "a"), tree.Int(1), tree.Text("")), "", api.OK, field.Must(3, "a")...)
}

func TestP29_2Kinds(t *testing.T) {
	for _, v := range ofKinds {
		n := mapOf(names("a"), v)
		for kind := -1; kind <= 8; kind++ {
			want, name := api.ErrType, "a"
			if kind == 0 || kind == v.Kind {
				want, name = api.OK, ""
			}
			checks(t, n, name, want, field.Must(kind, "a")...)
			checks(t, n, name, want, field.May(kind, "a")...)
		}
	}
}

func TestP29_2Most(t *testing.T) {
	wants := map[int]api.Errno{api.Text: api.ErrLong, api.List: api.ErrMany, api.Map: api.ErrMany}
	for _, v := range ofKinds { // those that are counted have three
		n := mapOf(names("a"), v)
		for _, kind := range []int{0, v.Kind} {
			for _, most := range []int{0, -1, math.MinInt, 3, 4, math.MaxInt} {
				checks(t, n, "", api.OK, field.Most(most, field.Must(kind, "a")...)...)
			}
			for _, most := range []int{1, 2} {
				if e, ok := wants[v.Kind]; ok {
					checks(t, n, "a", e, field.Most(most, field.May(kind, "a")...)...)
				} else {
					checks(t, n, "", api.OK, field.Most(most, field.May(kind, "a")...)...)
				}
			}
		}
	}
	checks(t, mapOf(names("a"), tree.Text("\u00e9\u00e9")), "a", api.ErrLong, field.Most(3, field.May(4, "a")...)...)
	checks(t, mapOf(names("a"), tree.Text("\u00e9\u00e9")), "", api.OK, field.Most(4, field.May(4, "a")...)...)
	checks(t, mapOf(names("a"), tree.Text(strings.Repeat("x", 256))), "a", api.ErrLong, field.Most(255, field.Must(4, "a")...)...)
	checks(t, mapOf(names("a"), tree.Text(strings.Repeat("x", 255))), "", api.OK, field.Most(255, field.Must(4, "a")...)...)
	checks(t, mapOf(names("a"), mapOf(names("x", "y", "z"), tree.Null())), "", api.OK, field.Most(1, field.Must(6, "a")...)...)
	checks(t, mapOf(names("a"), mapOf(names("x"), tree.Null(), tree.Null())), "a", api.ErrMany, field.Most(1, field.Must(6, "a")...)...)
	checks(t, mapOf(names("a"), node{Kind: api.Int, S: "long", L: ofKinds}), "", api.OK, field.Most(1, field.Must(0, "a")...)...)
}

func TestP29_2Low(t *testing.T) {
	for _, v := range []int64{-1, math.MinInt64, -1 << 53} {
		n := mapOf(names("a"), tree.Int(v))
		checks(t, n, "a", api.ErrRange, field.Low(field.Must(3, "a")...)...)
		checks(t, n, "a", api.ErrRange, field.Low(field.May(0, "a")...)...)
		checks(t, n, "", api.OK, field.May(3, "a")...)
		checks(t, n, "a", api.ErrType, field.Low(field.May(4, "a")...)...)
	}
	for _, v := range []int64{0, 1, math.MaxInt64} {
		checks(t, mapOf(names("a"), tree.Int(v)), "", api.OK, field.Low(field.Must(3, "a")...)...)
	}
	for _, v := range ofKinds {
		if v.Kind != api.Int {
			v.N = -1
			checks(t, mapOf(names("a"), v), "", api.OK, field.Low(field.Must(0, "a")...)...)
		}
	}
}

func TestP29_2TheFirstRuleIsTold(t *testing.T) {
	n := mapOf(names("text", "int", "list"), tree.Text("xyz"), tree.Int(-1), tree.List(tree.Null(), tree.Null()))
	long := field.Most(2, field.May(4, "text")...)[0]
	low := field.Low(field.May(3, "int")...)[0]
	many := field.Most(1, field.May(5, "list")...)[0]
	none := field.Must(0, "none")[0]
	kind := field.May(1, "list")[0]
	good := field.Must(4, "text")[0]
	wrong := []struct {
		r rule
		e api.Errno
	}{{long, api.ErrLong}, {low, api.ErrRange}, {many, api.ErrMany}, {none, api.ErrField}, {kind, api.ErrType}}
	for _, a := range wrong {
		for _, b := range wrong {
			checks(t, n, a.r.Name, a.e, a.r, b.r)
			checks(t, n, a.r.Name, a.e, good, a.r, good, b.r)
		}
	}
	checks(t, n, "", api.OK, good, good, field.May(0, "none")[0])
	checks(t, mapOf(names("a"), tree.Text("xy")), "a", api.ErrLong, field.Most(1, field.May(4, "a")...)...)
	checks(t, mapOf(names("a"), tree.Text("xy")), "b", api.ErrField, field.Must(0, "b")...)
}

func texts(t *testing.T, n node, name, want string, ok bool) {
	t.Helper()
	if got, is := field.Text(n, name); got != want || is != ok {
		t.Errorf("Text(%+v, %q): %q, %v", n, name, got, is)
	}
}

func TestP29_3Text(t *testing.T) {
	n := mapOf(names("a", "", "\xff", "int", "null", "list", "map", "zero", "odd"), tree.Text("A"), tree.Text(""), tree.Text("\xfe"), tree.Int(1), tree.Null(), tree.List(tree.Text("x")), mapOf(names("a"), tree.Text("y")), node{}, node{Kind: 7, S: "odd"})
	texts(t, n, "a", "A", true)
	texts(t, n, "", "", true)
	texts(t, n, "\xff", "\xfe", true)
	for _, name := range names("b", "A", "int", "null", "list", "map", "zero", "odd", "a\x00") {
		texts(t, n, name, "", false)
	}
	texts(t, node{Kind: api.Int, S: "s", K: names("a"), L: []node{tree.Text("x")}}, "a", "", false)
	texts(t, node{Kind: api.List, K: names("a"), L: []node{tree.Text("x")}}, "a", "", false)
	texts(t, mapOf(names("a")), "a", "", false)
	texts(t, mapOf(names("a", "a"), tree.Text("1"), tree.Text("2")), "a", "1", true)
	texts(t, mapOf(names("a", "a"), tree.Int(1), tree.Text("2")), "a", "", false)
	texts(t, mapOf(names("a"), node{Kind: api.Int, S: "s"}), "a", "", false)
	texts(t, node{}, "", "", false)
	texts(t, node{Kind: api.Text, S: "x"}, "", "", false)
}
