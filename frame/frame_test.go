package frame_test

import (
	"math"
	"math/rand"
	"slices"
	"strconv"
	"strings"
	"testing"

	"sealring/api"
	"sealring/frame"
	"sealring/tree"
)

type node = api.Node

type txn = api.Txn

func mapOf(keys []string, values ...node) node { return node{Kind: api.Map, K: keys, L: values} }

func edu(kind string) node {
	return tree.Map(tree.Text("edu_type"), tree.Text(kind), tree.Text("content"), tree.Map())
}

// plain is a transaction with one of each.
func plain() node {
	return tree.Map(tree.Text("origin"), tree.Text("a.b"), tree.Text("origin_server_ts"), tree.Int(5), tree.Text("pdus"), tree.List(tree.Map(), tree.Int(7)), tree.Text("edus"), tree.List(edu("x"), edu("y")))
}

// alike holds two transactions against each other, node by node as they stand.
func alike(a, b txn) bool {
	return a.Origin == b.Origin && a.TS == b.TS && slices.EqualFunc(a.Pdus, b.Pdus, tree.Exact) && slices.EqualFunc(a.Edus, b.Edus, tree.Exact)
}

func reads(t *testing.T, n node, want txn) {
	t.Helper()
	if got, name, e := frame.Read(n); !alike(got, want) || name != "" || e != api.OK {
		t.Errorf("%+v: %+v, %q, %d, not %+v", n, got, name, e, want)
	}
}

func refuses(t *testing.T, n node, name string, want api.Errno) {
	t.Helper()
	if got, field, e := frame.Read(n); !alike(got, txn{}) || field != name || e != want {
		t.Errorf("kind %d, keys %q: %+v, %q, %d, not %q, %d", n.Kind, n.K, got, field, e, name, want)
	}
}

func many(n node, times int) []node { return slices.Repeat([]node{n}, times) }

func TestP43_1Read(t *testing.T) {
	n := plain()
	both := txn{Origin: "a.b", TS: 5, Pdus: []node{tree.Map(), tree.Int(7)}, Edus: []node{edu("x"), edu("y")}}
	reads(t, n, both)
	reads(t, mapOf([]string{"edus", "pdus", "origin_server_ts", "origin"}, n.L[3], n.L[2], n.L[1], n.L[0]), both)
	both.Edus = nil
	reads(t, tree.Without(n, "edus"), both)
	reads(t, tree.Put(n, "edus", tree.List()), both)
	both.Pdus = nil
	reads(t, tree.Put(tree.Without(n, "edus"), "pdus", tree.List()), both)
	for _, ts := range []int64{0, 1, api.MaxInt} {
		both.TS = ts
		reads(t, mapOf([]string{"pdus", "origin", "origin_server_ts"}, tree.List(), tree.Text("a.b"), tree.Int(ts)), both)
	}
	for _, origin := range []string{"a", "A.b:80", "1.2.3.4", "[::1]:65535", strings.Repeat("a.", 113) + "b"} {
		reads(t, tree.Put(n, "origin", tree.Text(origin)), txn{Origin: origin, TS: 5, Pdus: []node{tree.Map(), tree.Int(7)}, Edus: []node{edu("x"), edu("y")}})
	}
}

func TestP43_1PdusWhateverTheyAre(t *testing.T) {
	var l []node
	for _, n := range []node{tree.Null(), tree.Bool(true), tree.Int(-1), tree.Text(""), tree.List(tree.Null()), tree.Map(), tree.Map(tree.Text("type"), tree.Int(1)), edu("x")} {
		l = append(l, n, n)
	}
	reads(t, tree.Put(tree.Without(plain(), "edus"), "pdus", tree.List(l...)), txn{Origin: "a.b", TS: 5, Pdus: l})
}

func TestP43_1WhatMayNotBe(t *testing.T) {
	for want, l := range map[api.Errno][]node{
		api.ErrKind:  {{}, {Kind: 7}, {Kind: api.Null, S: "a"}},
		api.ErrRange: {tree.Int(1 << 53), tree.Int(math.MinInt64)},
		api.ErrText:  {tree.Text("\xff"), mapOf([]string{"\xff"}, tree.Null())},
		api.ErrArg:   {mapOf([]string{"origin"})},
		api.ErrTwice: {mapOf([]string{"origin", "origin"}, tree.Text("a.b"), tree.Text("a.b"))},
	} {
		for _, n := range l {
			refuses(t, n, "", want)
			for _, key := range []string{"origin", "origin_server_ts", "pdus", "edus", "more"} {
				refuses(t, tree.Put(plain(), key, n), "", want)
				refuses(t, tree.Put(plain(), key, tree.List(n)), "", want)
			}
			refuses(t, tree.Map(tree.Text("x"), n), "", want)
		}
	}
	deep := tree.Null()
	for range 1000000 {
		deep = tree.List(deep)
	}
	refuses(t, deep, "", api.ErrDeep)
	refuses(t, tree.Put(plain(), "pdus", deep), "", api.ErrDeep)
	twice := plain()
	refuses(t, mapOf(append(slices.Clone(twice.K), "origin"), append(slices.Clone(twice.L), twice.L[0])...), "", api.ErrTwice)
	short := plain()
	short.L = short.L[:3]
	refuses(t, short, "", api.ErrArg)
	for _, n := range []node{tree.Null(), tree.Bool(false), tree.Int(1), tree.Text("origin"), tree.List(), tree.List(plain())} {
		refuses(t, n, "", api.ErrType)
	}
}

func TestP43_1FieldsThatMust(t *testing.T) {
	refuses(t, tree.Map(), "origin", api.ErrField)
	refuses(t, tree.Map(tree.Text("x"), tree.Null()), "origin", api.ErrField)
	for _, key := range []string{"origin", "origin_server_ts", "pdus"} {
		refuses(t, tree.Without(plain(), key), key, api.ErrField)
		refuses(t, tree.Without(tree.Put(plain(), "more", tree.Null()), key), key, api.ErrField)
	}
	refuses(t, tree.Without(plain(), "origin_server_ts", "pdus"), "origin_server_ts", api.ErrField)
	refuses(t, tree.Put(tree.Without(plain(), "origin"), "Origin", tree.Text("a.b")), "origin", api.ErrField)
}

func TestP43_1KindsOfFields(t *testing.T) {
	kinds := map[string]int{"origin": api.Text, "origin_server_ts": api.Int, "pdus": api.List, "edus": api.List}
	for key, kind := range kinds {
		for _, n := range []node{tree.Null(), tree.Bool(true), tree.Int(3), tree.Text("a.b"), tree.List(), tree.Map()} {
			if n.Kind != kind {
				refuses(t, tree.Put(plain(), key, n), key, api.ErrType)
				refuses(t, tree.Put(tree.Put(plain(), "more", tree.Null()), key, n), key, api.ErrType)
			}
		}
	}
	for _, ts := range []int64{-1, -5, -api.MaxInt} {
		refuses(t, tree.Put(plain(), "origin_server_ts", tree.Int(ts)), "origin_server_ts", api.ErrRange)
	}
}

func TestP43_1AtMost(t *testing.T) {
	n := tree.Put(tree.Put(plain(), "pdus", tree.List(many(tree.Null(), 50)...)), "edus", tree.List(many(edu("x"), 100)...))
	reads(t, n, txn{Origin: "a.b", TS: 5, Pdus: many(tree.Null(), 50), Edus: many(edu("x"), 100)})
	for _, most := range []int{51, 100, 5000} {
		refuses(t, tree.Put(n, "pdus", tree.List(many(tree.Null(), most)...)), "pdus", api.ErrMany)
	}
	for _, most := range []int{101, 5000} {
		refuses(t, tree.Put(n, "edus", tree.List(many(edu("x"), most)...)), "edus", api.ErrMany)
		refuses(t, tree.Put(n, "edus", tree.List(many(tree.Null(), most)...)), "edus", api.ErrMany)
	}
}

func TestP43_1OtherFields(t *testing.T) {
	for _, key := range []string{"x", "", "Origin", "origin ", "pdu", "edu", "edus_", "origin_server_t", "transaction_id", "\u00e9"} {
		refuses(t, tree.Put(plain(), key, tree.Null()), key, api.ErrMore)
		refuses(t, tree.Put(tree.Without(plain(), "edus"), key, tree.Null()), key, api.ErrMore)
		n := plain()
		n.K, n.L = append([]string{key}, n.K...), append([]node{tree.List()}, n.L...)
		refuses(t, n, key, api.ErrMore)
		refuses(t, tree.Put(n, "last", tree.Null()), key, api.ErrMore)
	}
	refuses(t, tree.Put(tree.Put(plain(), "z", tree.Null()), "a", tree.Null()), "z", api.ErrMore)
}

func TestP43_1Origin(t *testing.T) {
	long := strings.Repeat("a.", 115) + "b"
	for origin, want := range map[string]api.Errno{"": api.ErrName, "a_b": api.ErrName, "a.b:0": api.ErrName, "a..b": api.ErrName, " a.b": api.ErrName, "1.2.3": api.ErrName, "@a:b.c": api.ErrName, long: api.ErrLong, long[1:]: api.ErrName} {
		refuses(t, tree.Put(plain(), "origin", tree.Text(origin)), "origin", want)
		refuses(t, tree.Put(tree.Put(plain(), "origin", tree.Text(origin)), "edus", tree.List(tree.Null())), "origin", want)
	}
}

func TestP43_1Edus(t *testing.T) {
	for want, l := range map[api.Errno][]node{
		api.ErrType:  {tree.Null(), tree.Int(1), tree.Text("x"), tree.List(edu("x")), tree.Put(edu("x"), "edu_type", tree.Null()), tree.Put(edu("x"), "content", tree.List())},
		api.ErrField: {tree.Map(), tree.Without(edu("x"), "content"), tree.Without(edu("x"), "edu_type")},
		api.ErrShort: {edu("")},
		api.ErrLong:  {edu(strings.Repeat("x", 256))},
	} {
		for _, n := range l {
			refuses(t, tree.Put(plain(), "edus", tree.List(n)), "edus", want)
			refuses(t, tree.Put(plain(), "edus", tree.List(edu("x"), n, edu(""), tree.Null(), tree.Map())), "edus", want)
			refuses(t, tree.Put(plain(), "edus", tree.List(append(many(edu("x"), 99), n)...)), "edus", want)
		}
	}
	more := tree.Put(edu(strings.Repeat("x", 255)), "more", tree.Null())
	reads(t, tree.Put(plain(), "edus", tree.List(more)), txn{Origin: "a.b", TS: 5, Pdus: []node{tree.Map(), tree.Int(7)}, Edus: []node{more}})
}

// The errors in the order in which the chapter names them: each one is told in spite of all behind it.
func TestP43_1TheFirstIsTold(t *testing.T) {
	n := tree.Put(plain(), "edus", tree.List(tree.Null()))
	refuses(t, n, "edus", api.ErrType)
	n = tree.Put(n, "origin", tree.Text(""))
	refuses(t, n, "origin", api.ErrName)
	n = tree.Put(n, "more", tree.Null())
	refuses(t, n, "more", api.ErrMore)
	n = tree.Put(n, "edus", tree.List(many(tree.Null(), 101)...))
	refuses(t, n, "edus", api.ErrMany)
	n = tree.Put(n, "pdus", tree.List(many(tree.Null(), 51)...))
	refuses(t, n, "pdus", api.ErrMany)
	n = tree.Put(n, "origin_server_ts", tree.Int(-1))
	refuses(t, n, "origin_server_ts", api.ErrRange)
	n = tree.Put(n, "origin", tree.Int(-1))
	refuses(t, n, "origin", api.ErrType)
	n = tree.Put(n, "last", tree.Text("\xff"))
	refuses(t, n, "", api.ErrText)
}

func writes(t *testing.T, x txn, want node) {
	t.Helper()
	if got := frame.Write(x); !tree.Exact(got, want) {
		t.Errorf("%+v: %+v, not %+v", x, got, want)
	}
}

func TestP43_2Write(t *testing.T) {
	keys := []string{"origin", "origin_server_ts", "pdus"}
	writes(t, txn{}, mapOf(keys, tree.Text(""), tree.Int(0), tree.List()))
	writes(t, txn{Origin: "a.b", Pdus: []node{}, Edus: []node{}}, mapOf(keys, tree.Text("a.b"), tree.Int(0), tree.List()))
	pdus := []node{tree.Int(2), {}, tree.Int(1)}
	writes(t, txn{Origin: "\xff", TS: math.MinInt64, Pdus: pdus}, mapOf(keys, tree.Text("\xff"), tree.Int(math.MinInt64), tree.List(pdus...)))
	keys = append(keys, "edus")
	writes(t, txn{Origin: "a.b", TS: 5, Edus: pdus}, mapOf(keys, tree.Text("a.b"), tree.Int(5), tree.List(), tree.List(pdus...)))
	writes(t, txn{Origin: "a.b", TS: 5, Pdus: []node{tree.Map(), tree.Int(7)}, Edus: []node{edu("x"), edu("y")}}, plain())
	writes(t, txn{Pdus: many(tree.Null(), 60), Edus: many(tree.Null(), 110)}, mapOf(keys, tree.Text(""), tree.Int(0), tree.List(many(tree.Null(), 60)...), tree.List(many(tree.Null(), 110)...)))
}

func TestP43_2Same(t *testing.T) {
	ab, ba := mapOf([]string{"a", "b"}, tree.Int(1), tree.Int(2)), mapOf([]string{"b", "a"}, tree.Int(2), tree.Int(1))
	badAB, badBA := mapOf([]string{"a", "b"}, tree.Int(1), node{}), mapOf([]string{"b", "a"}, node{}, tree.Int(1))
	l := []txn{
		{}, {Origin: "a.b"}, {Origin: "A.b"}, {TS: 1}, {TS: -1}, {Origin: "a.b", TS: 1},
		{Pdus: []node{ab}}, {Edus: []node{ab}}, {Pdus: []node{ab}, Edus: []node{ab}}, {Pdus: []node{ab, ab}}, {Pdus: []node{ab, tree.Int(1)}}, {Pdus: []node{tree.Int(1), ab}}, {Edus: []node{ab, tree.Int(1)}}, {Edus: []node{tree.Int(1), ab}},
		{Pdus: []node{{}}}, {Pdus: []node{badAB}}, {Pdus: []node{badBA}}, {Edus: []node{badAB}}, {Edus: []node{badBA}}, {Pdus: []node{tree.Int(1), tree.Int(2)}},
	}
	for i, a := range l {
		for j, b := range l {
			if got := frame.Same(a, b); got != (i == j) {
				t.Errorf("Same(%+v, %+v): %v", a, b, got)
			}
		}
	}
	for _, l := range [][2]txn{
		{{Pdus: []node{ab}}, {Pdus: []node{ba}}}, {{Edus: []node{tree.List(ba)}}, {Edus: []node{tree.List(ab)}}}, {{Pdus: []node{}}, {Edus: []node{}}},
	} {
		if !frame.Same(l[0], l[1]) || !frame.Same(l[1], l[0]) {
			t.Errorf("%+v, %+v", l[0], l[1])
		}
	}
}

// anyNode is some node that may be, or one that may not.
func anyNode(r *rand.Rand, deep int) node {
	switch k := r.Intn(8); {
	case k == 0:
		return edu(strconv.Itoa(r.Intn(3)))
	case k == 1 && deep > 0:
		return tree.List(anyNode(r, deep-1), anyNode(r, deep-1))
	case k == 2 && deep > 0:
		return tree.Map(tree.Text("b"), anyNode(r, deep-1), tree.Text("a"), anyNode(r, deep-1))
	case k == 3 && r.Intn(10) == 0:
		return tree.Int(1 << 53)
	case k < 6:
		return tree.Int(int64(r.Intn(3)))
	}
	return edu(strings.Repeat("x", 1+r.Intn(256)))
}

// anyOf is some node of that kind, or, seldom, any.
func anyOf(r *rand.Rand, list bool) node {
	if r.Intn(20) == 0 {
		return anyNode(r, 2)
	}
	if !list {
		return []node{tree.Text("a.b"), tree.Text("c"), tree.Int(0), tree.Int(7)}[r.Intn(4)]
	}
	out := node{Kind: api.List}
	for range r.Intn(3) {
		out.L = append(out.L, anyNode(r, 2))
	}
	return out
}

func TestP43_3WhatIsWrittenIsRead(t *testing.T) {
	r := rand.New(rand.NewSource(43))
	read := 0
	for range 3000 {
		x := txn{Origin: []string{"a.b", "c:1", "", "d"}[r.Intn(4)], TS: int64(r.Intn(5) - 1), Pdus: anyOf(r, true).L, Edus: anyOf(r, true).L}
		got, name, e := frame.Read(frame.Write(x))
		switch {
		case e == api.OK && (!frame.Same(got, x) || name != ""):
			t.Errorf("%+v is read as %+v, %q", x, got, name)
		case e != api.OK && !alike(got, txn{}):
			t.Errorf("%+v: %d, %+v", x, e, got)
		case e == api.OK:
			read++
		}
	}
	if read < 300 {
		t.Error(read)
	}
}

func TestP43_3WhatIsReadIsWritten(t *testing.T) {
	r := rand.New(rand.NewSource(433))
	read := 0
	for range 6000 {
		n := node{Kind: api.Map}
		for _, i := range r.Perm(4)[:3+r.Intn(2)] {
			n.K = append(n.K, []string{"origin", "origin_server_ts", "pdus", "edus"}[i])
			n.L = append(n.L, anyOf(r, i > 1))
		}
		x, _, e := frame.Read(n)
		if e != api.OK {
			continue
		}
		read++
		if v, _ := tree.Get(n, "edus"); len(v.L) == 0 {
			n = tree.Without(n, "edus")
		}
		if !tree.Same(frame.Write(x), n) {
			t.Errorf("%+v is written as %+v", n, frame.Write(x))
		}
	}
	if read < 100 {
		t.Error(read)
	}
}

func TestP43WhatIsHandedInIsNotChanged(t *testing.T) {
	n := plain()
	x, _, _ := frame.Read(n)
	pdus := append(make([]node, 0, 10), tree.Int(1))
	y := frame.Write(txn{Origin: "a.b", Pdus: pdus, Edus: pdus})
	pdus[0] = tree.Int(2)
	frame.Same(x, x)
	v, _ := tree.Get(y, "pdus")
	w, _ := tree.Get(y, "edus")
	if !tree.Exact(n, plain()) || !tree.Exact(v, tree.List(tree.Int(1))) || !tree.Exact(w, v) {
		t.Error(n, y)
	}
}
