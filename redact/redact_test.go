package redact_test

import (
	"math"
	"math/rand"
	"slices"
	"strings"
	"testing"

	"sealring/api"
	"sealring/canon"
	"sealring/parse"
	"sealring/redact"
	"sealring/schema"
	"sealring/tree"
)

type node = api.Node

var noVersions = []int{0, -1, 12, 13, 100, math.MinInt, math.MaxInt}

func mapOf(keys []string, values ...node) node { return node{Kind: api.Map, K: keys, L: values} }

func read(t *testing.T, s string) node {
	t.Helper()
	n, _, e := parse.Parse(s)
	if e != api.OK {
		t.Fatalf("%s: %d", s, e)
	}
	return n
}

func only(t *testing.T, n, want node, keys ...string) {
	t.Helper()
	if got := redact.Only(n, keys...); !tree.Exact(got, want) {
		t.Errorf("Only(%+v, %q): %+v, not %+v", n, keys, got, want)
	}
}

func TestP33_1OnlyOfAMap(t *testing.T) {
	n := read(t, `{"b":1,"a":{"a":2,"x":3},"c":[4],"":null}`)
	only(t, n, read(t, `{}`))
	only(t, n, read(t, `{}`), "x", "B", "b ", "aa")
	only(t, n, n, "", "a", "b", "c")
	only(t, n, n, "c", "b", "x", "a", "", "a", "b")
	only(t, n, read(t, `{"b":1,"c":[4]}`), "c", "b")
	only(t, n, read(t, `{"a":{"a":2,"x":3}}`), "a")
	only(t, n, read(t, `{"":null}`), "")
	only(t, tree.Map(), tree.Map(), "a")
	only(t, mapOf([]string{"\xff", "a"}, node{}, tree.Int(1)), mapOf([]string{"\xff"}, node{}), "\xff")
}

func TestP33_1OnlyOfWhatMayNotBe(t *testing.T) {
	one, two := tree.Int(1), tree.Int(2)
	only(t, mapOf([]string{"a", "b", "a"}, one, two, two), mapOf([]string{"a", "a"}, one, two), "a")
	only(t, mapOf([]string{"a", "b"}, one), mapOf([]string{"a"}, one), "a", "b")
	only(t, mapOf([]string{"a", "a"}, one), mapOf([]string{"a"}, one), "a")
	only(t, mapOf([]string{"a"}), tree.Map(), "a")
	only(t, mapOf([]string{"a"}, one, two), mapOf([]string{"a"}, one), "a", "")
	only(t, mapOf(nil, one, two), tree.Map(), "", "a")
	only(t, node{Kind: api.Map, N: 7, S: "s", K: []string{"b", "a"}, L: []node{one, two}}, node{Kind: api.Map, N: 7, S: "s", K: []string{"a"}, L: []node{two}}, "a")
}

func TestP33_1OnlyOfOthers(t *testing.T) {
	for _, n := range []node{{}, tree.Null(), tree.Bool(true), tree.Int(1), tree.Text("a"), tree.List(tree.Map(tree.Text("b"), tree.Null())), {Kind: 7, S: "a"}, {Kind: api.List, K: []string{"b"}, L: []node{tree.Null()}}} {
		only(t, n, n)
		only(t, n, n, "a")
	}
}

func redacts(t *testing.T, v int, n, want node) {
	t.Helper()
	if got, e := redact.Redact(v, n); e != api.OK || !tree.Exact(got, want) {
		t.Errorf("Redact(%d, %+v): %+v, %d, not %+v", v, n, got, e, want)
	}
}

func refuses(t *testing.T, v int, n node, want api.Errno) {
	t.Helper()
	if got, e := redact.Redact(v, n); e != want || !tree.Exact(got, node{}) {
		t.Errorf("Redact(%d, kind %d): %+v, %d, not %d", v, n.Kind, got, e, want)
	}
}

func TestP33_2WhatIsRefused(t *testing.T) {
	bad := map[api.Errno][]node{
		api.ErrKind:  {{}, {Kind: 7}, tree.Map(tree.Text("x"), node{}), {Kind: api.Map, N: 1}, {Kind: api.List, S: "a"}},
		api.ErrRange: {tree.Int(1 << 53), tree.Map(tree.Text("unsigned"), tree.Int(1<<53))},
		api.ErrText:  {tree.Text("\xff"), mapOf([]string{"\xff"}, tree.Null()), tree.Map(tree.Text("x"), tree.Text("\xff"))},
		api.ErrArg:   {mapOf([]string{"type"})},
		api.ErrTwice: {mapOf([]string{"x", "x"}, tree.Null(), tree.Null())},
		api.ErrType:  {tree.Null(), tree.Bool(true), tree.Int(1), tree.Text("type"), tree.List(), tree.List(tree.Map())},
	}
	deep := tree.Null()
	for range 1000000 {
		deep = tree.List(deep)
	}
	bad[api.ErrDeep] = []node{deep, tree.Map(tree.Text("x"), deep)}
	for want, l := range bad {
		for _, n := range l {
			for v := 1; v <= 11; v++ {
				refuses(t, v, n, want)
			}
			for _, v := range noVersions {
				refuses(t, v, n, api.ErrVersion)
			}
		}
	}
	for _, v := range noVersions {
		refuses(t, v, tree.Map(), api.ErrVersion)
	}
}

// tops are kept of an event in all versions, and old ones up to version 10.
var (
	tops = strings.Fields("type state_key signatures sender room_id prev_events origin_server_ts hashes event_id depth auth_events")
	olds = strings.Fields("prev_state origin membership")
	none = strings.Fields("unsigned redacts age Type _type content_ state prev_content user_id third_party_invite creator x")
)

func TestP33_2Top(t *testing.T) {
	all := slices.Concat(none[:4], olds, tops, none[4:])
	r := rand.New(rand.NewSource(33))
	for v := 1; v <= 11; v++ {
		for range 20 {
			r.Shuffle(len(all), func(i, j int) { all[i], all[j] = all[j], all[i] })
			n, want := tree.Map(), tree.Map()
			for i, key := range all {
				value := tree.Map(tree.Text("x"), tree.Int(int64(i)))
				n = tree.Put(n, key, value)
				if slices.Contains(tops, key) || v <= 10 && slices.Contains(olds, key) {
					want = tree.Put(want, key, value)
				}
			}
			redacts(t, v, n, want)
		}
	}
	for v := 1; v <= 11; v++ {
		redacts(t, v, tree.Map(), tree.Map())
		redacts(t, v, tree.Map(tree.Text("unsigned"), tree.Map()), tree.Map())
	}
}

// full is a content that has all that is kept of any, and more.
const full = `{"x":1,"signed":{"a":1},"membership":"m","third_party_invite":{"display_name":"d","signed":{"token":"t","signed":{}},"more":1},"join_authorised_via_users_server":"j","creator":"c","room_version":"v","join_rule":"r","allow":["l"],"users_default":0,"users":{"u":1},"state_default":2,"redact":3,"kick":4,"invite":5,"events_default":6,"events":{"e":7},"ban":8,"notifications":{"n":9},"aliases":["a"],"history_visibility":"h","redacts":"i","reason":"s","body":"b","name":"n"}`

// span is what is kept of the content of a type's events from one version to another.
type span struct {
	kind     string
	from, to int
	content  string
}

var spans = []span{
	{"m.room.member", 1, 8, `{"membership":"m"}`},
	{"m.room.member", 9, 10, `{"membership":"m","join_authorised_via_users_server":"j"}`},
	{"m.room.member", 11, 11, `{"membership":"m","third_party_invite":{"signed":{"token":"t","signed":{}}},"join_authorised_via_users_server":"j"}`},
	{"m.room.create", 1, 10, `{"creator":"c"}`},
	{"m.room.create", 11, 11, full},
	{"m.room.join_rules", 1, 7, `{"join_rule":"r"}`},
	{"m.room.join_rules", 8, 11, `{"join_rule":"r","allow":["l"]}`},
	{"m.room.power_levels", 1, 10, `{"users_default":0,"users":{"u":1},"state_default":2,"redact":3,"kick":4,"events_default":6,"events":{"e":7},"ban":8}`},
	{"m.room.power_levels", 11, 11, `{"users_default":0,"users":{"u":1},"state_default":2,"redact":3,"kick":4,"invite":5,"events_default":6,"events":{"e":7},"ban":8}`},
	{"m.room.aliases", 1, 5, `{"aliases":["a"]}`},
	{"m.room.aliases", 6, 11, `{}`},
	{"m.room.history_visibility", 1, 11, `{"history_visibility":"h"}`},
	{"m.room.redaction", 1, 10, `{}`},
	{"m.room.redaction", 11, 11, `{"redacts":"i"}`},
	{"m.room.message", 1, 11, `{}`},
	{"m.room.third_party_invite", 1, 11, `{}`},
	{"m.room.Member", 1, 11, `{}`},
	{"", 1, 11, `{}`},
}

func TestP33_2Content(t *testing.T) {
	for _, s := range spans {
		for v := s.from; v <= s.to; v++ {
			kind, content, kept := tree.Text(s.kind), read(t, full), read(t, s.content)
			redacts(t, v, tree.Map(tree.Text("type"), kind, tree.Text("content"), content), tree.Map(tree.Text("type"), kind, tree.Text("content"), kept))
			// The content's place is what it was, wherever the type stands.
			redacts(t, v, tree.Map(tree.Text("content"), content, tree.Text("unsigned"), content, tree.Text("depth"), content, tree.Text("type"), kind), tree.Map(tree.Text("content"), kept, tree.Text("depth"), content, tree.Text("type"), kind))
			redacts(t, v, tree.Map(tree.Text("type"), kind, tree.Text("content"), tree.Map()), tree.Map(tree.Text("type"), kind, tree.Text("content"), tree.Map()))
		}
	}
}

func TestP33_2ContentWithoutAType(t *testing.T) {
	content := read(t, full)
	for v := 1; v <= 11; v++ {
		redacts(t, v, tree.Map(tree.Text("content"), content), tree.Map(tree.Text("content"), tree.Map()))
		for _, kind := range []node{tree.Null(), tree.Int(1), tree.List(tree.Text("m.room.create")), tree.Map(tree.Text("type"), tree.Text("m.room.create"))} {
			redacts(t, v, tree.Map(tree.Text("content"), content, tree.Text("type"), kind), tree.Map(tree.Text("content"), tree.Map(), tree.Text("type"), kind))
		}
	}
}

func TestP33_2ContentThatIsNoMap(t *testing.T) {
	for _, s := range spans {
		for _, n := range []node{tree.Null(), tree.Bool(true), tree.Int(1), tree.Text("membership"), tree.List(), tree.List(read(t, full))} {
			kind := tree.Text(s.kind)
			redacts(t, s.to, tree.Map(tree.Text("content"), n, tree.Text("type"), kind), tree.Map(tree.Text("type"), kind))
		}
	}
}

// Of what is kept whole no matter what it is, and of what is kept in part.
func TestP33_2ValuesOfAContent(t *testing.T) {
	event := func(kind string, content node) node {
		return tree.Map(tree.Text("type"), tree.Text(kind), tree.Text("content"), content)
	}
	values := []node{tree.Null(), tree.Bool(false), tree.Int(-1), tree.Text("t"), tree.List(tree.Map(tree.Text("x"), tree.Null())), tree.List()}
	for v := 1; v <= 11; v++ {
		for _, n := range append(values, read(t, `{"x":{"y":1},"signed":2}`)) {
			kept := event("m.room.member", tree.Map(tree.Text("membership"), n))
			redacts(t, v, kept, kept)
		}
	}
	invite := func(n node) node {
		return event("m.room.member", tree.Map(tree.Text("third_party_invite"), n, tree.Text("membership"), tree.Null()))
	}
	for _, n := range values {
		redacts(t, 11, invite(n), event("m.room.member", tree.Map(tree.Text("membership"), tree.Null())))
		inner := tree.Map(tree.Text("signed"), n)
		redacts(t, 11, invite(tree.Put(inner, "x", n)), invite(inner))
	}
	redacts(t, 11, invite(tree.Map()), invite(tree.Map()))
	redacts(t, 11, invite(read(t, `{"x":1,"Signed":2,"signed ":3}`)), invite(tree.Map()))
	redacts(t, 11, invite(read(t, `{"x":1,"signed":{"x":1,"third_party_invite":2},"y":3}`)), invite(read(t, `{"signed":{"x":1,"third_party_invite":2}}`)))
	// What has that name elsewhere is kept whole, or not at all.
	created := event("m.room.create", read(t, `{"third_party_invite":{"x":1},"creator":null}`))
	redacts(t, 11, created, created)
	redacts(t, 10, created, event("m.room.create", read(t, `{"creator":null}`)))
	redacts(t, 11, event("m.room.message", read(t, `{"third_party_invite":{"signed":1}}`)), event("m.room.message", tree.Map()))
}

// anyOf is some value.
func anyOf(r *rand.Rand, deep int) node {
	switch k := r.Intn(6); {
	case k == 0:
		return tree.Null()
	case k == 1:
		return tree.Int(int64(r.Intn(5)))
	case k == 2 || deep == 0:
		return tree.Text(strings.Repeat("t", r.Intn(4)))
	case k == 3:
		return tree.List(anyOf(r, deep-1), anyOf(r, deep-1))
	}
	n := tree.Map()
	for range r.Intn(4) {
		n = tree.Put(n, strings.Fields("a signed third_party_invite membership type content")[r.Intn(6)], anyOf(r, deep-1))
	}
	return n
}

// anyEvent has some fields, and of its content some.
func anyEvent(t *testing.T, r *rand.Rand) node {
	n := tree.Map()
	keys := slices.Concat(tops, olds, none)
	for range r.Intn(12) {
		n = tree.Put(n, keys[r.Intn(len(keys))], anyOf(r, 2))
	}
	content, all := tree.Map(), read(t, full)
	for i, key := range all.K {
		if r.Intn(2) == 0 {
			content = tree.Put(content, key, []node{all.L[i], anyOf(r, 3)}[r.Intn(2)])
		}
	}
	n = tree.Put(n, "content", []node{content, content, content, anyOf(r, 2)}[r.Intn(4)])
	if r.Intn(10) > 0 {
		n = tree.Put(n, "type", tree.Text(spans[r.Intn(len(spans))].kind))
	}
	return n
}

func TestP33_3RedactedAgain(t *testing.T) {
	r := rand.New(rand.NewSource(333))
	for range 2000 {
		v, n := 1+r.Intn(11), anyEvent(t, r)
		once, e := redact.Redact(v, n)
		if e != api.OK || tree.Check(once) != api.OK {
			t.Errorf("Redact(%d, %+v): %+v, %d", v, n, once, e)
		}
		redacts(t, v, once, once)
		before, _ := canon.Size(n)
		if behind, e := canon.Size(once); e != api.OK || behind > before {
			t.Errorf("Redact(%d, %+v): %d bytes of %d", v, n, behind, before)
		}
	}
}

// mayBe is an event of some type, such as may be in a version, with more than is kept of it.
func mayBe(t *testing.T, v int, kind string) node {
	t.Helper()
	noughts := strings.Repeat("A", 43)
	id := `"$` + noughts + `"`
	ref := id
	if v <= 2 {
		id = `"$e:a.b"`
		ref = `[` + id + `,{"sha256":"` + noughts + `"}]`
	}
	n := read(t, `{"unsigned":{"age":1},"room_id":"!r:a.b","sender":"@s:a.b","depth":1,"origin_server_ts":2,"prev_events":[`+ref+`],"auth_events":[],"hashes":{"sha256":"`+noughts+`","x":1},"signatures":{"a.b":{"ed25519:1":"`+noughts+noughts+`"},"c.d":{}},"state_key":"","redacts":`+id+`,"origin":"a.b","membership":1,"prev_state":2,"more":3,"content":`+full+`}`)
	n = tree.Put(n, "type", tree.Text(kind))
	if v <= 2 {
		n = tree.Put(n, "event_id", tree.Text("$i:a.b"))
	}
	if name, e := schema.Check(v, n); e != api.OK {
		t.Fatalf("%d, %q: %q, %d", v, kind, name, e)
	}
	return n
}

func TestP33_3WhatMayBeStaysSo(t *testing.T) {
	for v := 1; v <= 11; v++ {
		for _, s := range spans {
			n := mayBe(t, v, s.kind)
			least := n
			for _, key := range []string{"unsigned", "state_key", "redacts", "origin", "membership", "prev_state", "more"} {
				least = tree.Without(least, key)
			}
			size, _ := canon.Size(n)
			great := tree.Put(n, "unsigned", tree.Map(tree.Text("age"), tree.Text(strings.Repeat("a", 65535-size))))
			for _, n := range []node{n, least, great, tree.Put(n, "content", tree.Map())} {
				if !schema.Mays(v, n) {
					t.Fatalf("%d, %q: no event", v, s.kind)
				}
				got, e := redact.Redact(v, n)
				if name, f := schema.Check(v, got); e != api.OK || f != api.OK {
					t.Errorf("Redact(%d, %q): %d, %q, %d", v, s.kind, e, name, f)
				}
			}
		}
	}
}

// The fields that an event must have are all kept, as they were.
func TestP33_3WhatMustBeThereStays(t *testing.T) {
	for v := 1; v <= 11; v++ {
		rules, _ := schema.Rules(v)
		for _, s := range spans {
			n := mayBe(t, v, s.kind)
			got, _ := redact.Redact(v, n)
			for _, r := range rules {
				before, _ := tree.Get(n, r.Name)
				if behind, _ := tree.Get(got, r.Name); r.Must && r.Name != "content" && !tree.Exact(before, behind) {
					t.Errorf("Redact(%d, %q): %s", v, s.kind, r.Name)
				}
			}
		}
	}
}

func TestP33WhatIsHandedInIsNotChanged(t *testing.T) {
	for v := 1; v <= 11; v++ {
		n := tree.Map(tree.Text("x"), tree.Null(), tree.Text("content"), read(t, full), tree.Text("type"), tree.Text("m.room.member"))
		before := tree.Map(tree.Text("x"), tree.Null(), tree.Text("content"), read(t, full), tree.Text("type"), tree.Text("m.room.member"))
		redact.Redact(v, n)
		redact.Only(n, "type", "content")
		if !tree.Exact(n, before) {
			t.Errorf("%d: %+v", v, n)
		}
	}
}
