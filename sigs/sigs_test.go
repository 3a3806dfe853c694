package sigs_test

import (
	"math/rand"
	"reflect"
	"slices"
	"sort"
	"testing"

	"sealring/api"
	"sealring/sigs"
	"sealring/tree"
)

type node = api.Node
type sig = api.Sig

func of(server, key, value string) sig { return sig{Server: server, Key: key, Value: value} }

func mapOf(keys []string, values ...node) node { return node{Kind: api.Map, K: keys, L: values} }

func names(l ...string) []string { return l }

// signed is a Map with these signatures.
func signed(servers node) node {
	return mapOf(names("type", "signatures", "depth"), tree.Text("t"), servers, tree.Int(1))
}

func is(t *testing.T, what string, got, want node) {
	t.Helper()
	if !tree.Exact(got, want) {
		t.Errorf("%s: %+v, not %+v", what, got, want)
	}
}

func all(t *testing.T, e node, want ...sig) {
	t.Helper()
	seq := sigs.All(e)
	for range 2 {
		if got := slices.Collect(seq); !slices.Equal(got, want) {
			t.Errorf("All(%+v): %+v, not %+v", e, got, want)
		}
	}
	for leave := 1; leave <= len(want); leave++ {
		seen := 0
		for s := range seq {
			if s != want[seen] {
				t.Errorf("%d: %+v", seen, s)
			}
			if seen++; seen == leave {
				break
			}
		}
		if seen != leave {
			t.Errorf("left at %d: %d", leave, seen)
		}
	}
}

// strange are Maps with signatures that are none, or such as may not be.
var strange = []node{
	signed(tree.Null()), signed(tree.List(tree.Map())), signed(tree.Text("a")), signed(tree.Map()), tree.Map(),
	signed(mapOf(names("a", "b"), tree.Null(), tree.Map())),
	signed(mapOf(names("a"), mapOf(names("k", "l"), tree.Int(1), tree.Map()))),
	signed(mapOf(names("a"))), mapOf(names("signatures")),
	signed(mapOf(names("a"), node{Kind: api.List, K: names("k"), L: []node{tree.Text("x")}})),
	signed(node{Kind: 7, K: names("a"), L: []node{mapOf(names("k"), tree.Text("x"))}}),
	mapOf(names("signatures", "signatures"), tree.Null(), mapOf(names("a"), mapOf(names("k"), tree.Text("x")))),
	mapOf(names("Signatures"), mapOf(names("a"), mapOf(names("k"), tree.Text("x")))),
}

func TestP38_1All(t *testing.T) {
	e := signed(mapOf(names("b", "a", "B", "\xff", "", "ab"),
		mapOf(names("z", "\U0001f600", "y", "", "\uffff"), tree.Text("1"), tree.Text("2"), tree.Text("3"), tree.Text(""), tree.Text("4")),
		mapOf(names("k", "j", "i"), tree.Text("5"), tree.Int(6), tree.Text("7")),
		mapOf(names("k"), tree.Text("8")),
		mapOf(names("k"), tree.Text("\xff")),
		mapOf(names("x", "w"), tree.Text("9"), node{Kind: api.Text, S: "10", N: 3}),
		mapOf(names("c"), tree.Text("11")),
	))
	all(t, e, of("", "w", "10"), of("", "x", "9"), of("B", "k", "8"), of("a", "i", "7"), of("a", "k", "5"), of("ab", "c", "11"),
		of("b", "", ""), of("b", "y", "3"), of("b", "z", "1"), of("b", "\uffff", "4"), of("b", "\U0001f600", "2"), of("\xff", "k", "\xff"))
	for _, n := range strange {
		all(t, n)
	}
	all(t, signed(mapOf(names("a", "b"), tree.Null(), mapOf(names("k", "l"), tree.Null(), tree.Text("x")))), of("b", "l", "x"))
}

func TestP38_1AllOfNoMaps(t *testing.T) {
	for kind := -1; kind < 8; kind++ {
		e := signed(mapOf(names("a"), mapOf(names("k"), tree.Text("x"))))
		if e.Kind = kind; kind == api.Map {
			all(t, e, of("a", "k", "x"))
			continue
		}
		all(t, e)
		if v, ok := sigs.Get(e, "a", "k"); v != "" || ok {
			t.Errorf("kind %d: %q, %v", kind, v, ok)
		}
	}
}

func TestP38_1AllOfWhatMayNotBe(t *testing.T) {
	all(t, signed(mapOf(names("b", "a", "b"), mapOf(names("z", "k", "k"), tree.Text("1"), tree.Text("2"), tree.Text("1")), mapOf(names("k"), tree.Text("3")), mapOf(names("k", "a", "z"), tree.Text("4"), tree.Text("5"), tree.Text("0")))),
		of("a", "k", "3"), of("b", "a", "5"), of("b", "k", "2"), of("b", "k", "1"), of("b", "k", "4"), of("b", "z", "1"), of("b", "z", "0"))
	all(t, signed(mapOf(names("b", "a"), mapOf(names("k", "j"), tree.Text("1")))), of("b", "k", "1"))
	all(t, signed(mapOf(names("b"), mapOf(names("k"), tree.Text("1"), tree.Text("2")), mapOf(names("k"), tree.Text("3")))), of("b", "k", "1"))
	all(t, mapOf(names("signatures", "signatures"), mapOf(names("a"), mapOf(names("k"), tree.Text("x"))), mapOf(names("b"), mapOf(names("k"), tree.Text("y")))), of("a", "k", "x"))
}

func TestP38_1AllAsTheyStandWhenTheRangeBegins(t *testing.T) {
	e := signed(mapOf(names("a"), mapOf(names("k"), tree.Text("x"))))
	seq := sigs.All(e)
	e.L[1].L[0].L[0] = tree.Text("y")
	if got := slices.Collect(seq); !slices.Equal(got, []sig{of("a", "k", "y")}) {
		t.Error(got)
	}
}

func gets(t *testing.T, e node, server, key, want string, ok bool) {
	t.Helper()
	if got, is := sigs.Get(e, server, key); got != want || is != ok {
		t.Errorf("Get(%+v, %q, %q): %q, %v", e, server, key, got, is)
	}
}

func TestP38_1Get(t *testing.T) {
	e := signed(mapOf(names("a", "", "b"), mapOf(names("k", "", "n"), tree.Text("x"), tree.Text(""), tree.Int(1)), mapOf(names("k"), tree.Text("\xff")), tree.Text("k")))
	gets(t, e, "a", "k", "x", true)
	gets(t, e, "a", "", "", true)
	gets(t, e, "", "k", "\xff", true)
	for _, s := range []sig{of("a", "n", ""), of("a", "l", ""), of("A", "k", ""), of("b", "k", ""), of("b", "", ""), of("c", "k", ""), of("k", "a", ""), of("type", "t", "")} {
		gets(t, e, s.Server, s.Key, "", false)
	}
	for _, n := range append(slices.Clone(strange), node{}, tree.List(e), tree.Text("a")) {
		for _, server := range names("a", "b", "") {
			gets(t, n, server, "k", "", false)
		}
	}
	twice := signed(mapOf(names("a", "a", "b", "b"), mapOf(names("k", "k", "l", "l"), tree.Text("1"), tree.Text("2"), tree.Null(), tree.Text("3")), mapOf(names("j"), tree.Text("4")), tree.Null(), mapOf(names("k"), tree.Text("5"))))
	gets(t, twice, "a", "k", "1", true)
	gets(t, twice, "a", "l", "", false)
	gets(t, twice, "a", "j", "", false)
	gets(t, twice, "b", "k", "", false)
}

func TestP38_2Put(t *testing.T) {
	one := mapOf(names("a.b"), mapOf(names("ed25519:1"), tree.Text("x")))
	is(t, "of an empty one", sigs.Put(tree.Map(), of("a.b", "ed25519:1", "x")), mapOf(names("signatures"), one))
	for _, other := range []node{{}, tree.Null(), tree.Text("s"), tree.List(one), {Kind: 7, K: names("z"), L: []node{one}}} {
		is(t, "in place of another", sigs.Put(signed(other), of("a.b", "ed25519:1", "x")), signed(one))
		is(t, "in place of a server's", sigs.Put(signed(mapOf(names("c", "a.b"), tree.Int(1), other)), of("a.b", "ed25519:1", "x")), signed(mapOf(names("c", "a.b"), tree.Int(1), one.L[0])))
		is(t, "in place of a key's", sigs.Put(signed(mapOf(names("a.b"), mapOf(names("k", "ed25519:1"), tree.Int(1), other))), of("a.b", "ed25519:1", "x")), signed(mapOf(names("a.b"), mapOf(names("k", "ed25519:1"), tree.Int(1), tree.Text("x")))))
	}
	is(t, "in order", sigs.Put(signed(one), of("b", "2", "p"), of("a.b", "0", "q"), of("b", "1", ""), of("", "", "\xff"), of("b", "2", "r"), of("a.b", "ed25519:1", "s")),
		signed(mapOf(names("a.b", "b", ""), mapOf(names("ed25519:1", "0"), tree.Text("s"), tree.Text("q")), mapOf(names("2", "1"), tree.Text("r"), tree.Text("")), mapOf(names(""), tree.Text("\xff")))))
	is(t, "as tree's Put puts", sigs.Put(node{Kind: api.Map, N: 1, S: "s", K: names("a", "b"), L: []node{tree.Null()}}, of("a", "k", "v")), node{Kind: api.Map, N: 1, S: "s", K: names("a", "signatures"), L: []node{tree.Null(), mapOf(names("a"), mapOf(names("k"), tree.Text("v")))}})
	is(t, "as tree's Put puts", sigs.Put(signed(node{Kind: api.Map, N: 2, K: names("a", "a", "z"), L: []node{{Kind: api.Map, S: "t", K: names("k", "k", "y"), L: []node{tree.Null(), tree.Int(1)}}, tree.Int(2)}}), of("a", "k", "v")),
		signed(node{Kind: api.Map, N: 2, K: names("a", "a"), L: []node{{Kind: api.Map, S: "t", K: names("k", "k"), L: []node{tree.Text("v"), tree.Int(1)}}, tree.Int(2)}}))
}

func TestP38_2PutOfNothingAndOfNoMaps(t *testing.T) {
	for _, n := range append(slices.Clone(strange), mapOf(names("a", "b"), tree.Null())) {
		is(t, "of nothing", sigs.Put(n), n)
	}
	for kind := -1; kind < 8; kind++ {
		if e := (node{Kind: kind, N: 1, S: "s", K: names("signatures", "x"), L: []node{mapOf(names("a"), mapOf(names("k"), tree.Text("x")))}}); kind != api.Map {
			is(t, "Put", sigs.Put(e, of("a", "k", "v")), e)
			is(t, "Without", sigs.Without(e, "a", "k"), e)
		}
	}
}

func TestP38_2Without(t *testing.T) {
	a, b := mapOf(names("k", "l", "n"), tree.Text("1"), tree.Text("2"), tree.Int(3)), mapOf(names("k"), tree.Text("4"))
	e := signed(mapOf(names("a", "b", "empty", "c"), a, b, tree.Map(), tree.Null()))
	rest := func(n node) node { return signed(mapOf(names("a", "b", "empty", "c"), n, b, tree.Map(), tree.Null())) }
	is(t, "one", sigs.Without(e, "a", "k"), rest(mapOf(names("l", "n"), a.L[1:]...)))
	is(t, "two", sigs.Without(e, "a", "n", "k", "x", "n"), rest(mapOf(names("l"), a.L[1])))
	is(t, "what is no Text is left", sigs.Without(e, "a", "k", "l"), rest(mapOf(names("n"), a.L[2])))
	is(t, "none is left", sigs.Without(e, "a", "k", "l", "n"), signed(mapOf(names("b", "empty", "c"), b, tree.Map(), tree.Null())))
	is(t, "none is left", sigs.Without(e, "b", "x", "k"), signed(mapOf(names("a", "empty", "c"), a, tree.Map(), tree.Null())))
	is(t, "without keys", sigs.Without(e, "a"), e)
	is(t, "with others", sigs.Without(e, "a", "", "K"), e)
	is(t, "none was there", sigs.Without(e, "empty"), signed(mapOf(names("a", "b", "c"), a, b, tree.Null())))
	is(t, "none was there", sigs.Without(e, "empty", "k"), signed(mapOf(names("a", "b", "c"), a, b, tree.Null())))
	is(t, "no Map", sigs.Without(e, "c", "k"), e)
	is(t, "not there", sigs.Without(e, "d", "k"), e)
	is(t, "example", sigs.Without(sigs.Put(tree.Map(), of("a.b", "ed25519:1", "x")), "a.b", "ed25519:1"), mapOf(names("signatures"), tree.Map()))
	for _, n := range strange {
		for _, server := range names("c", "k", "type") {
			is(t, "nothing there", sigs.Without(n, server, "k"), n)
		}
	}
	odd := mapOf(names("x", "y"), tree.Null()) // which stays as it is, where nothing is left out
	is(t, "no signatures", sigs.Without(odd, "a", "k"), odd)
	is(t, "twice", sigs.Without(signed(mapOf(names("a", "b", "a"), mapOf(names("k", "k"), tree.Text("1"), tree.Text("2")), b, a)), "a", "k"), signed(mapOf(names("b"), b)))
	is(t, "twice", sigs.Without(signed(mapOf(names("a", "b", "a"), a, b, b)), "a", "k"), signed(mapOf(names("a", "b", "a"), mapOf(names("l", "n"), a.L[1:]...), b, b)))
	is(t, "a key without a value is none", sigs.Without(signed(mapOf(names("a"), mapOf(names("k", "l"), tree.Text("1")))), "a", "k"), signed(tree.Map()))
}

func TestP38_2WhatIsHandedInIsNotChanged(t *testing.T) {
	keys, values := names("k", "l", "spare"), []node{tree.Text("1"), tree.Text("2"), tree.Text("spare")}
	servers, maps := names("a", "b", "spare"), []node{mapOf(keys[:2], values[:2]...), mapOf(names("k"), tree.Text("3")), tree.Text("spare")}
	e := signed(mapOf(servers[:2], maps[:2]...))
	l := []sig{of("a", "n", "1"), of("c", "n", "2"), of("spare", "", "")}
	left := names("k", "l", "spare")
	first := sigs.Put(e, l[:2]...)
	sigs.Put(e, of("a", "k", "new"))
	sigs.Without(e, "a", left[:1]...)
	sigs.Without(e, "a", left[:2]...)
	sigs.Without(e, "b", "k")
	for range sigs.All(e) {
	}
	if !reflect.DeepEqual(keys, names("k", "l", "spare")) || !reflect.DeepEqual(values, []node{tree.Text("1"), tree.Text("2"), tree.Text("spare")}) || !reflect.DeepEqual(servers, names("a", "b", "spare")) || !reflect.DeepEqual(maps[1:], []node{mapOf(names("k"), tree.Text("3")), tree.Text("spare")}) || len(e.L[1].K) != 2 || l[2].Server != "spare" || left[2] != "spare" {
		t.Errorf("%+v", e)
	}
	gets(t, first, "a", "n", "1", true)
	gets(t, first, "a", "k", "1", true)
}

func TestP38_3WhatIsPutIsGot(t *testing.T) {
	r := rand.New(rand.NewSource(38))
	pick := func() string { return []string{"a", "b", "", "ab", "\xff"}[r.Intn(5)] }
	for range 300 {
		e := strange[r.Intn(len(strange))]
		held := map[sig]string{} // by server and key
		for range 20 {
			s := of(pick(), pick(), pick())
			if before, ok := sigs.Get(e, s.Server, s.Key); ok != (held[of(s.Server, s.Key, "")] != "") || ok && before+"!" != held[of(s.Server, s.Key, "")] {
				t.Errorf("%+v: %q, %v", s, before, ok)
			}
			if r.Intn(3) == 0 {
				e = sigs.Without(e, s.Server, s.Key)
				delete(held, of(s.Server, s.Key, ""))
				gets(t, e, s.Server, s.Key, "", false)
			} else {
				e = sigs.Put(e, s)
				held[of(s.Server, s.Key, "")] = s.Value + "!"
				gets(t, e, s.Server, s.Key, s.Value, true)
			}
			var want []sig
			for at, v := range held {
				want = append(want, of(at.Server, at.Key, v[:len(v)-1]))
			}
			sort.Slice(want, func(i, j int) bool {
				return want[i].Server < want[j].Server || want[i].Server == want[j].Server && want[i].Key < want[j].Key
			})
			if got := slices.Collect(sigs.All(e)); !slices.Equal(got, want) {
				t.Fatalf("%+v: %+v, not %+v", e, got, want)
			}
		}
	}
}
