package refhash_test

import (
	"crypto/sha256"
	"math"
	"math/rand"
	"strings"
	"testing"

	"sealring/api"
	"sealring/octet"
	"sealring/parse"
	"sealring/redact"
	"sealring/refhash"
	"sealring/strip"
	"sealring/tree"
)

type node = api.Node

var noVersions = []int{0, -1, 12, 13, 100, math.MinInt, math.MaxInt}

func mapOf(keys []string, values ...node) node { return node{Kind: api.Map, K: keys, L: values} }

func read(t *testing.T, s string) node {
	t.Helper()
	n, _, e := parse.Parse(s)
	if e != api.OK {
		t.Fatalf("%s: %d", s, e)
	}
	return n
}

// hashOf is a text's, by the library's means.
func hashOf(s string) string {
	h := sha256.Sum256([]byte(s))
	return string(h[:])
}

// tells asks for the hash of a text.
func tells(t *testing.T, v int, n node, text string) {
	t.Helper()
	if s, e := refhash.Of(v, n); s != hashOf(text) || e != api.OK {
		t.Errorf("Of(%d, %+v): %x, %d, not that of %s", v, n, s, e, text)
	}
}

func refuses(t *testing.T, v int, n node, want api.Errno) {
	t.Helper()
	if s, e := refhash.Of(v, n); s != "" || e != want {
		t.Errorf("Of(%d, ..): %x, %d, not %d", v, s, e, want)
	}
	same(t, v, n, n, false)
	same(t, v, n, tree.Map(), false)
	same(t, v, tree.Map(), n, false)
}

func same(t *testing.T, v int, a, b node, want bool) {
	t.Helper()
	if refhash.Same(v, a, b) != want || refhash.Same(v, b, a) != want {
		t.Errorf("Same(%d, %+v, %+v) isn't %t", v, a, b, want)
	}
}

// event has all that is kept of some event, and more.
const event = `{"type":"m.room.member","content":{"x":1,"unsigned":{},"signatures":{},"membership":"join","join_authorised_via_users_server":"@j:a","third_party_invite":{"signed":{"t":1,"signatures":{"s":1},"unsigned":0},"signatures":2,"display_name":"d"}},"unsigned":{"age":1},"signatures":{"a.b":{"ed25519:1":"s"}},"hashes":{"sha256":"h","unsigned":3},"event_id":"$e","room_id":"!r","sender":"@s","state_key":"","depth":1,"origin_server_ts":2,"prev_events":[{"unsigned":1}],"auth_events":[],"origin":"o","membership":"m","prev_state":[],"redacts":"r","age":4}`

// kept is the form of that without unsigned and signatures, as versions keep it.
func kept(v int) string {
	content, prev, member, origin := `"membership":"join"`, "", "", ""
	if v >= 9 {
		content = `"join_authorised_via_users_server":"@j:a",` + content
	}
	if v >= 11 {
		content += `,"third_party_invite":{"signed":{"signatures":{"s":1},"t":1,"unsigned":0}}`
	} else {
		member, origin, prev = `"membership":"m",`, `"origin":"o",`, `"prev_state":[],`
	}
	return `{"auth_events":[],"content":{` + content + `},"depth":1,"event_id":"$e","hashes":{"sha256":"h","unsigned":3},` + member + origin + `"origin_server_ts":2,"prev_events":[{"unsigned":1}],` + prev + `"room_id":"!r","sender":"@s","state_key":"","type":"m.room.member"}`
}

func TestP36_1Of(t *testing.T) {
	for v := 1; v <= 11; v++ {
		tells(t, v, read(t, event), kept(v))
		tells(t, v, tree.Map(), `{}`)
		for text, hashed := range map[string]string{
			`{"signatures":{},"unsigned":{},"x":1}`:                                      `{}`,
			`{"signatures":1,"hashes":{"b":1,"a":2},"type":"x"}`:                         `{"hashes":{"a":2,"b":1},"type":"x"}`,
			`{"type":"m.room.message","content":{"body":"b","signatures":1},"depth":-1}`: `{"content":{},"depth":-1,"type":"m.room.message"}`,
			`{"content":[{"membership":1}],"type":"m.room.member"}`:                      `{"type":"m.room.member"}`,
			`{"room_id":"\u00e9\u000a"}`:                                                 "{\"room_id\":\"\u00e9\\n\"}",
		} {
			tells(t, v, read(t, text), hashed)
		}
		if s, _ := refhash.Of(v, tree.Map()); octet.Hex(s) != "44136fa355b3678a1146ad16f7e8649e94fb4fc21fe77e8310c060f61caaff8a" {
			t.Error(octet.Hex(s))
		}
	}
}

func TestP36_1OfIsSigningsHash(t *testing.T) {
	r := rand.New(rand.NewSource(36))
	for range 300 {
		v, n := 1+r.Intn(11), anyEvent(t, r)
		signing, e := strip.Signing(v, n)
		if e != api.OK {
			t.Fatal(e)
		}
		tells(t, v, n, signing)
	}
}

func TestP36_1WhatIsRefused(t *testing.T) {
	deep := tree.Null()
	for range 1000000 {
		deep = tree.List(deep)
	}
	for want, l := range map[api.Errno][]node{
		api.ErrKind:  {{}, {Kind: 7}, {Kind: api.Map, N: 1}, tree.Map(tree.Text("unsigned"), node{})},
		api.ErrRange: {tree.Int(1 << 53), tree.Map(tree.Text("x"), tree.Int(-1<<53))},
		api.ErrText:  {tree.Text("\xff"), mapOf([]string{"\xff"}, tree.Null()), tree.Map(tree.Text("signatures"), tree.Text("\xff"))},
		api.ErrArg:   {mapOf([]string{"type"}), mapOf(nil, tree.Null()), mapOf([]string{"unsigned", "x"}, tree.Null())},
		api.ErrTwice: {mapOf([]string{"x", "x"}, tree.Null(), tree.Null()), mapOf([]string{"unsigned", "unsigned"}, tree.Null(), tree.Null())},
		api.ErrDeep:  {deep, tree.Map(tree.Text("unsigned"), deep)},
		api.ErrType:  {tree.Null(), tree.Bool(true), tree.Int(1), tree.Text("type"), tree.Text(""), tree.List(), tree.List(tree.Map())},
	} {
		for _, n := range l {
			for v := 1; v <= 11; v++ {
				refuses(t, v, n, want)
			}
			for _, v := range noVersions {
				refuses(t, v, n, api.ErrVersion)
			}
		}
	}
	for _, v := range noVersions {
		refuses(t, v, tree.Map(), api.ErrVersion)
		refuses(t, v, read(t, event), api.ErrVersion)
	}
}

func TestP36_1Same(t *testing.T) {
	for v := 1; v <= 11; v++ {
		empty, n := tree.Map(), read(t, event)
		same(t, v, empty, empty, true)
		same(t, v, empty, read(t, `{"body":1}`), true)
		same(t, v, n, n, true)
		same(t, v, n, tree.Sorted(n), true)
		same(t, v, n, empty, false)
		for _, key := range []string{"unsigned", "signatures", "age", "redacts", "body"} {
			same(t, v, n, tree.Put(n, key, tree.Int(3)), true)
			same(t, v, n, tree.Without(n, key), true)
		}
		for _, key := range []string{"type", "content", "hashes", "event_id", "room_id", "sender", "state_key", "depth", "origin_server_ts", "prev_events", "auth_events"} {
			same(t, v, n, tree.Put(n, key, tree.Int(3)), false)
			same(t, v, n, tree.Without(n, key), false)
		}
		for _, key := range []string{"origin", "membership", "prev_state"} {
			same(t, v, n, tree.Put(n, key, tree.Int(3)), v == 11)
			same(t, v, n, tree.Without(n, key), v == 11)
		}
		a, b := read(t, `{"type":"m.room.aliases","content":{"aliases":[1]}}`), read(t, `{"type":"m.room.aliases","content":{"aliases":[2]}}`)
		same(t, v, a, b, v >= 6)
	}
}

// What both have not is not the same.
func TestP36_1SameOfWhatHasNone(t *testing.T) {
	for v := 1; v <= 11; v++ {
		for _, a := range []node{tree.Null(), tree.Int(1), tree.List(), {}, tree.Int(1 << 53)} {
			for _, b := range []node{tree.Null(), tree.Int(1), tree.List(), {}, tree.Map(), read(t, event)} {
				same(t, v, a, b, false)
			}
		}
	}
	for _, v := range noVersions {
		same(t, v, tree.Map(), tree.Map(), false)
	}
}

// anyEvent has some fields, in some order, and some of them are no such ones.
func anyEvent(t *testing.T, r *rand.Rand) node {
	t.Helper()
	all := read(t, event)
	n := tree.Map()
	for _, i := range r.Perm(len(all.K))[:r.Intn(len(all.K)+1)] {
		value := all.L[i]
		if r.Intn(4) == 0 {
			value = tree.Text(strings.Repeat("t", r.Intn(4)))
		}
		n = tree.Put(n, all.K[i], value)
	}
	if r.Intn(2) == 0 {
		kinds := strings.Fields("m.room.member m.room.create m.room.message m.room.power_levels m.room.redaction")
		n = tree.Put(n, "type", tree.Text(kinds[r.Intn(len(kinds))]))
	}
	return n
}

func TestP36_2WhatIsRedacted(t *testing.T) {
	r := rand.New(rand.NewSource(362))
	for range 300 {
		v, n := 1+r.Intn(11), anyEvent(t, r)
		want, e := refhash.Of(v, n)
		once, _ := redact.Redact(v, n)
		if got, f := refhash.Of(v, once); got != want || len(got) != 32 || e != api.OK || f != api.OK {
			t.Errorf("%d, %+v: %x, %d, not %x, %d", v, n, got, f, want, e)
		}
		same(t, v, n, once, true)
	}
	for v := 1; v <= 11; v++ {
		once, _ := redact.Redact(v, read(t, event))
		tells(t, v, once, kept(v))
	}
}

func TestP36WhatIsHandedInIsNotChanged(t *testing.T) {
	n := read(t, event)
	for v := 1; v <= 11; v++ {
		refhash.Of(v, n)
		refhash.Same(v, n, n)
	}
	if !tree.Exact(n, read(t, event)) {
		t.Errorf("%+v", n)
	}
}
