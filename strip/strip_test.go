package strip_test

import (
	"math"
	"math/rand"
	"slices"
	"strings"
	"testing"

	"sealring/api"
	"sealring/canon"
	"sealring/parse"
	"sealring/redact"
	"sealring/strip"
	"sealring/tree"
)

type node = api.Node

var noVersions = []int{0, -1, 12, 13, 100, math.MinInt, math.MaxInt}

func mapOf(keys []string, values ...node) node { return node{Kind: api.Map, K: keys, L: values} }

func read(t *testing.T, s string) node {
	t.Helper()
	n, _, e := parse.Parse(s)
	if e != api.OK {
		t.Fatalf("%s: %d", s, e)
	}
	return n
}

// is holds what a call answers against what it should.
func is(t *testing.T, what, want string, wantErr api.Errno) func(got string, e api.Errno) {
	return func(got string, e api.Errno) {
		t.Helper()
		if got != want || e != wantErr {
			t.Errorf("%s: %q, %d, not %q, %d", what, got, e, want, wantErr)
		}
	}
}

func without(t *testing.T, text, want string, keys ...string) {
	t.Helper()
	is(t, "Without "+strings.Join(keys, ", ")+" of "+text, want, api.OK)(strip.Without(read(t, text), keys...))
}

func TestP34_1Without(t *testing.T) {
	const text = `{"c":[3,{"b":1,"a":2}],"b":{"c":1,"b":null,"a":true},"a":"\u00e9\n","":-1}`
	without(t, text, "{\"\":-1,\"a\":\"\u00e9\\n\",\"b\":{\"a\":true,\"b\":null,\"c\":1},\"c\":[3,{\"a\":2,\"b\":1}]}")
	without(t, text, "{\"\":-1,\"a\":\"\u00e9\\n\",\"b\":{\"a\":true,\"b\":null,\"c\":1}}", "c")
	without(t, text, `{"":-1,"c":[3,{"a":2,"b":1}]}`, "b", "a")
	without(t, text, `{"":-1,"c":[3,{"a":2,"b":1}]}`, "a", "x", "b", "a", "b")
	without(t, text, "{\"a\":\"\u00e9\\n\"}", "c", "", "b")
	without(t, text, `{}`, "", "a", "b", "c")
	without(t, text, `{}`, "c", "b", "a", "")
	without(t, text, "{\"\":-1,\"a\":\"\u00e9\\n\",\"b\":{\"a\":true,\"b\":null,\"c\":1},\"c\":[3,{\"a\":2,\"b\":1}]}", "A", "a ", "ab", "\x00", "\xff")
	without(t, `{}`, `{}`)
	without(t, `{}`, `{}`, "a")
	without(t, `{"\u00e9":1,"e":2}`, `{"e":2}`, "\u00e9")
	without(t, `{"unsigned":1,"signatures":2,"hashes":3}`, `{"hashes":3,"signatures":2,"unsigned":1}`)
}

// bad are nodes that Without refuses, by its error.
func bad() map[api.Errno][]node {
	deep := tree.Null()
	for range 1000000 {
		deep = tree.List(deep)
	}
	l := map[api.Errno][]node{
		api.ErrKind:  {{}, {Kind: 7}, {Kind: api.Map, N: 1}, {Kind: api.Map, S: "s"}, {Kind: api.List, S: "a"}, {Kind: api.Text, K: []string{"a"}}},
		api.ErrRange: {tree.Int(1 << 53), {Kind: api.Bool, N: 2}, tree.List(tree.Int(-1 << 53))},
		api.ErrText:  {tree.Text("\xff"), mapOf([]string{"\xff"}, tree.Null())},
		api.ErrArg:   {mapOf([]string{"type"}), mapOf(nil, tree.Null()), mapOf([]string{"unsigned", "x"}, tree.Null())},
		api.ErrTwice: {mapOf([]string{"x", "x"}, tree.Null(), tree.Null()), mapOf([]string{"unsigned", "unsigned"}, tree.Null(), tree.Null())},
		api.ErrDeep:  {deep},
		api.ErrType:  {tree.Null(), tree.Bool(true), tree.Int(1), tree.Text("unsigned"), tree.Text(""), tree.List(), tree.List(tree.Map())},
	}
	// What may not be is told wherever it stands, in what is left out, too.
	for e, inside := range l {
		if e == api.ErrType {
			continue
		}
		for _, n := range inside {
			for _, key := range []string{"x", "unsigned", "signatures", "hashes", "content"} {
				l[e] = append(l[e], tree.Map(tree.Text(key), n))
			}
		}
	}
	return l
}

func TestP34_1WhatIsRefused(t *testing.T) {
	for want, l := range bad() {
		for _, n := range l {
			is(t, "Without", "", want)(strip.Without(n))
			is(t, "Without", "", want)(strip.Without(n, "x", "unsigned", "signatures", "hashes", "content", "type"))
			is(t, "Content", "", want)(strip.Content(n))
			for v := 1; v <= 11; v++ {
				is(t, "Signing", "", want)(strip.Signing(v, n))
			}
			for _, v := range noVersions {
				is(t, "Signing of no version", "", api.ErrVersion)(strip.Signing(v, n))
			}
		}
	}
	for _, v := range noVersions {
		is(t, "Signing of no version", "", api.ErrVersion)(strip.Signing(v, tree.Map()))
		is(t, "Signing of no version", "", api.ErrVersion)(strip.Signing(v, read(t, event)))
	}
}

func TestP34_1Content(t *testing.T) {
	for text, want := range map[string]string{
		`{}`:                             `{}`,
		`{"b":1,"a":2,"hashes":{}}`:      `{"a":2,"b":1}`,
		`{"unsigned":{"age":1},"a":2}`:   `{"a":2}`,
		`{"a":2,"signatures":{"a.b":1}}`: `{"a":2}`,
		`{"unsigned":1,"hashes":null,"signatures":[]}`:                                                            `{}`,
		`{"event_id":"$a:b","type":"x","redacts":"y","more":1,"unsigned":{}}`:                                     `{"event_id":"$a:b","more":1,"redacts":"y","type":"x"}`,
		`{"Unsigned":1,"hash":2,"signature":3,"unsigned ":4,"":5,"signatures_":6,"hashes":7,"sha256":8}`:          `{"":5,"Unsigned":1,"hash":2,"sha256":8,"signature":3,"signatures_":6,"unsigned ":4}`,
		`{"content":{"unsigned":1,"signatures":2,"hashes":3},"x":[{"hashes":4}],"unsigned":{"unsigned":{"x":1}}}`: `{"content":{"hashes":3,"signatures":2,"unsigned":1},"x":[{"hashes":4}]}`,
	} {
		is(t, "Content of "+text, want, api.OK)(strip.Content(read(t, text)))
	}
}

// event has all that is kept of some event, and more.
const event = `{"type":"m.room.member","content":{"x":1,"unsigned":{},"signatures":{},"membership":"join","join_authorised_via_users_server":"@j:a","third_party_invite":{"signed":{"t":1,"signatures":{"s":1},"unsigned":0},"signatures":2,"display_name":"d"}},"unsigned":{"age":1},"signatures":{"a.b":{"ed25519:1":"s"}},"hashes":{"sha256":"h","unsigned":3},"event_id":"$e","room_id":"!r","sender":"@s","state_key":"","depth":1,"origin_server_ts":2,"prev_events":[{"unsigned":1}],"auth_events":[],"origin":"o","membership":"m","prev_state":[],"redacts":"r","age":4}`

// kept is the form of that without unsigned and signatures, as versions keep it.
func kept(v int) string {
	content, prev, member, origin := `"membership":"join"`, "", "", ""
	if v >= 9 {
		content = `"join_authorised_via_users_server":"@j:a",` + content
	}
	if v >= 11 {
		content += `,"third_party_invite":{"signed":{"signatures":{"s":1},"t":1,"unsigned":0}}`
	} else {
		member, origin, prev = `"membership":"m",`, `"origin":"o",`, `"prev_state":[],`
	}
	return `{"auth_events":[],"content":{` + content + `},"depth":1,"event_id":"$e","hashes":{"sha256":"h","unsigned":3},` + member + origin + `"origin_server_ts":2,"prev_events":[{"unsigned":1}],` + prev + `"room_id":"!r","sender":"@s","state_key":"","type":"m.room.member"}`
}

func TestP34_1Signing(t *testing.T) {
	for v := 1; v <= 11; v++ {
		is(t, "Signing", kept(v), api.OK)(strip.Signing(v, read(t, event)))
		is(t, "Signing of an empty Map", `{}`, api.OK)(strip.Signing(v, tree.Map()))
		for text, want := range map[string]string{
			`{"signatures":{},"unsigned":{},"x":1}`:                                                                     `{}`,
			`{"signatures":1,"hashes":{"b":1,"a":2},"type":"x"}`:                                                        `{"hashes":{"a":2,"b":1},"type":"x"}`,
			`{"type":"m.room.message","content":{"body":"b","signatures":1},"depth":-1}`:                                `{"content":{},"depth":-1,"type":"m.room.message"}`,
			`{"content":[{"membership":1}],"type":"m.room.member"}`:                                                     `{"type":"m.room.member"}`,
			`{"content":{"history_visibility":{"unsigned":1}},"type":"m.room.history_visibility","signatures":{"a":1}}`: `{"content":{"history_visibility":{"unsigned":1}},"type":"m.room.history_visibility"}`,
		} {
			is(t, "Signing of "+text, want, api.OK)(strip.Signing(v, read(t, text)))
		}
	}
	created := `{"type":"m.room.create","content":{"unsigned":2,"creator":"c","signatures":1},"signatures":3}`
	for v := 1; v <= 10; v++ {
		is(t, "Signing of "+created, `{"content":{"creator":"c"},"type":"m.room.create"}`, api.OK)(strip.Signing(v, read(t, created)))
	}
	is(t, "Signing of "+created, `{"content":{"creator":"c","signatures":1,"unsigned":2},"type":"m.room.create"}`, api.OK)(strip.Signing(11, read(t, created)))
}

// The words of Signing, done one by one.
func TestP34_1SigningIsOfWhatIsRedacted(t *testing.T) {
	r := rand.New(rand.NewSource(34))
	for range 1000 {
		v, n := 1+r.Intn(11), anyEvent(t, r)
		less, _ := redact.Redact(v, n)
		want, e := canon.Encode(tree.Without(less, "signatures", "unsigned"))
		is(t, "Signing", want, e)(strip.Signing(v, n))
		want, e = canon.Encode(tree.Without(n, "hashes", "signatures", "unsigned"))
		is(t, "Content", want, e)(strip.Content(n))
	}
}

// anyOf is some value that may be.
func anyOf(r *rand.Rand, deep int) node {
	switch k := r.Intn(6); {
	case k == 0:
		return tree.Bool(r.Intn(2) == 0)
	case k == 1:
		return tree.Int(int64(r.Intn(5)))
	case k == 2 || deep == 0:
		return tree.Text(strings.Repeat("t", r.Intn(4)))
	case k == 3:
		return tree.List(anyOf(r, deep-1), anyOf(r, deep-1))
	}
	n := tree.Map()
	for range r.Intn(4) {
		n = tree.Put(n, strings.Fields("a signatures unsigned hashes signed membership")[r.Intn(6)], anyOf(r, deep-1))
	}
	return n
}

// anyEvent has some fields, in some order, and of its content some.
func anyEvent(t *testing.T, r *rand.Rand) node {
	t.Helper()
	all := read(t, event)
	n := tree.Map()
	for _, i := range r.Perm(len(all.K))[:r.Intn(len(all.K)+1)] {
		value := all.L[i]
		if r.Intn(4) == 0 {
			value = anyOf(r, 3)
		}
		n = tree.Put(n, all.K[i], value)
	}
	if r.Intn(2) == 0 {
		kinds := strings.Fields("m.room.member m.room.create m.room.message m.room.power_levels m.room.redaction")
		n = tree.Put(n, "type", tree.Text(kinds[r.Intn(len(kinds))]))
	}
	return n
}

func TestP34_2SignaturesAndUnsignedChangeNeither(t *testing.T) {
	r := rand.New(rand.NewSource(342))
	for range 500 {
		v, n := 1+r.Intn(11), anyEvent(t, r)
		content, e := strip.Content(n)
		signing, f := strip.Signing(v, n)
		if e != api.OK || f != api.OK {
			t.Fatal(e, f)
		}
		less := tree.Without(n, "unsigned", "signatures")
		for _, changed := range []node{
			less, tree.Without(n, "unsigned"), tree.Without(n, "signatures"), tree.Put(n, "signatures", anyOf(r, 3)), tree.Put(n, "unsigned", anyOf(r, 3)),
			tree.Put(tree.Put(n, "unsigned", anyOf(r, 3)), "signatures", anyOf(r, 3)), mapOf(append([]string{"signatures"}, less.K...), append([]node{anyOf(r, 2)}, less.L...)...),
		} {
			is(t, "Content", content, api.OK)(strip.Content(changed))
			is(t, "Signing", signing, api.OK)(strip.Signing(v, changed))
		}
		hashes := tree.Put(n, "hashes", tree.Int(77))
		is(t, "Content", content, api.OK)(strip.Content(hashes))
		if s, _ := strip.Signing(v, hashes); s == signing {
			t.Error("hashes aren't signed:", s)
		}
	}
}

func TestP34_2SigningOfWhatIsRedacted(t *testing.T) {
	r := rand.New(rand.NewSource(343))
	for range 1000 {
		v, n := 1+r.Intn(11), anyEvent(t, r)
		want, _ := strip.Signing(v, n)
		once, _ := redact.Redact(v, n)
		is(t, "Signing", want, api.OK)(strip.Signing(v, once))
		is(t, "Signing in another order", want, api.OK)(strip.Signing(v, tree.Sorted(n)))
	}
	for v := 1; v <= 11; v++ {
		once, _ := redact.Redact(v, read(t, event))
		is(t, "Signing", kept(v), api.OK)(strip.Signing(v, once))
	}
}

func TestP34WhatIsHandedInIsNotChanged(t *testing.T) {
	n, keys := read(t, event), []string{"unsigned", "type", "spare"}
	strip.Without(n, keys[:2]...)
	strip.Content(n)
	for v := 1; v <= 11; v++ {
		strip.Signing(v, n)
	}
	if !tree.Exact(n, read(t, event)) || !slices.Equal(keys, []string{"unsigned", "type", "spare"}) {
		t.Errorf("%+v, %q", n, keys)
	}
}
