package edu_test

import (
	"math/rand"
	"slices"
	"strings"
	"testing"

	"sealring/api"
	"sealring/edu"
	"sealring/tree"
)

type node = api.Node

func mapOf(keys []string, values ...node) node { return node{Kind: api.Map, K: keys, L: values} }

func of(kind string) node {
	return tree.Map(tree.Text("edu_type"), tree.Text(kind), tree.Text("content"), tree.Map())
}

func checks(t *testing.T, n node, name string, e api.Errno) {
	t.Helper()
	if got, f := edu.Check(n); got != name || f != e {
		t.Errorf("%+v: %q, %d, not %q, %d", n, got, f, name, e)
	}
}

func TestP42_1WhatMayStand(t *testing.T) {
	for _, n := range []node{of("m.typing"), of("x"), of(" "), of(strings.Repeat("x", 255)), tree.Put(of("a"), "more", tree.Int(1)), tree.Put(of("a"), "content", tree.Map(tree.Text("x"), tree.List(tree.Null()))), mapOf([]string{"content", "", "edu_type"}, tree.Map(), tree.Null(), tree.Text("\u00e9"))} {
		checks(t, n, "", api.OK)
	}
}

func TestP42_1WhatIsWrongWithAField(t *testing.T) {
	checks(t, tree.Map(), "edu_type", api.ErrField)
	checks(t, tree.Without(of("a"), "edu_type"), "edu_type", api.ErrField)
	checks(t, tree.Without(of("a"), "content"), "content", api.ErrField)
	checks(t, mapOf([]string{"Edu_type", "Content"}, tree.Text("a"), tree.Map()), "edu_type", api.ErrField)
	for _, v := range []node{tree.Null(), tree.Bool(true), tree.Int(1), tree.List(), tree.Map()} {
		checks(t, tree.Put(of("a"), "edu_type", v), "edu_type", api.ErrType)
		checks(t, tree.Put(tree.Without(of("a"), "content"), "edu_type", v), "edu_type", api.ErrType)
		if v.Kind != api.Map {
			checks(t, tree.Put(of("a"), "content", v), "content", api.ErrType)
			checks(t, tree.Put(of(""), "content", v), "content", api.ErrType)
		}
	}
	checks(t, tree.Put(of("a"), "content", tree.Text("")), "content", api.ErrType)
	checks(t, of(strings.Repeat("x", 256)), "edu_type", api.ErrLong)
	checks(t, tree.Without(of(strings.Repeat("\u00e9", 128)), "content"), "edu_type", api.ErrLong)
	checks(t, of(""), "edu_type", api.ErrShort)
	checks(t, tree.Without(of(""), "content"), "content", api.ErrField)
}

func TestP42_1NoMapAndWhatMayNotBe(t *testing.T) {
	for _, n := range []node{tree.Null(), tree.Bool(true), tree.Int(1), tree.Text("edu_type"), tree.List(of("a"))} {
		checks(t, n, "", api.ErrType)
	}
	checks(t, node{}, "", api.ErrKind)
	checks(t, tree.Put(of("a"), "edu_type", tree.Text("\xff")), "", api.ErrText)
	checks(t, tree.Put(of("a"), "content", tree.Map(tree.Text("x"), tree.Int(1<<53))), "", api.ErrRange)
	checks(t, tree.Put(tree.Map(), "x", tree.Text("\xff")), "", api.ErrText)
	checks(t, mapOf([]string{"edu_type", "content", "edu_type"}, tree.Text("a"), tree.Map(), tree.Text("b")), "", api.ErrTwice)
	checks(t, mapOf([]string{"edu_type", "content"}, tree.Text("a")), "", api.ErrArg)
	checks(t, mapOf([]string{"\xff"}, tree.Null()), "", api.ErrText)
	deep := tree.Null()
	for range 1000000 {
		deep = tree.List(deep)
	}
	checks(t, tree.Put(of("a"), "content", deep), "", api.ErrDeep)
	checks(t, deep, "", api.ErrDeep)
}

// sample has nodes of each sort, those that may not be among them, and their types.
func sample() ([]node, []string) {
	return []node{
		of("b"), of("a"), tree.Map(), of("b"), tree.Null(), of(""), tree.Map(tree.Text("edu_type"), tree.Int(1)), of("A"), of("\u00e9"), tree.Text("b"),
		mapOf([]string{"edu_type", "edu_type"}, tree.Text("first"), tree.Text("second")), mapOf([]string{"x", "edu_type"}, tree.Text("a")), of("aa"), of("\xff"), {Kind: api.List, K: []string{"edu_type"}, L: []node{tree.Text("b")}},
	}, []string{
		"b", "a", "", "b", "", "", "", "A", "\u00e9", "", "first", "", "aa", "\xff", "",
	}
}

func TestP42_2TypesOfNodes(t *testing.T) {
	nodes, kinds := sample()
	for i, n := range nodes {
		if got := edu.Type(n); got != kinds[i] {
			t.Errorf("%+v: %q, not %q", n, got, kinds[i])
		}
	}
	if edu.Type(node{}) != "" || edu.Type(of("m.typing")) != "m.typing" {
		t.Error("Type")
	}
}

func TestP42_2EachTypeOnceRising(t *testing.T) {
	nodes, _ := sample()
	want := []string{"A", "a", "aa", "b", "first", "\u00e9", "\xff"}
	r := rand.New(rand.NewSource(42))
	for range 50 {
		r.Shuffle(len(nodes), func(i, j int) { nodes[i], nodes[j] = nodes[j], nodes[i] })
		if got := edu.Types(nodes...); !slices.Equal(got, want) {
			t.Errorf("%q, not %q", got, want)
		}
	}
	if l := edu.Types(); len(l) != 0 {
		t.Error(l)
	}
	if l := edu.Types(tree.Null(), of(""), tree.Map()); len(l) != 0 {
		t.Error(l)
	}
	if l := edu.Types(of("x"), of("x")); !slices.Equal(l, []string{"x"}) {
		t.Error(l)
	}
}

func TestP42_2Count(t *testing.T) {
	nodes, _ := sample()
	for kind, many := range map[string]int{"b": 2, "a": 1, "A": 1, "aa": 1, "first": 1, "second": 0, "\xff": 1, "c": 0, "": 7, "B": 0} {
		if got := edu.Count(kind, nodes...); got != many {
			t.Errorf("%q: %d, not %d", kind, got, many)
		}
	}
	if edu.Count("a") != 0 || edu.Count("") != 0 || edu.Count("m.typing", of("m.typing"), of("m.typing")) != 2 {
		t.Error("Count")
	}
}
