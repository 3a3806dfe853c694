package eventid_test

import (
	"crypto/sha256"
	"encoding/base64"
	"math"
	"math/rand"
	"slices"
	"strconv"
	"strings"
	"testing"

	"sealring/api"
	"sealring/eventid"
	"sealring/ident"
	"sealring/parse"
	"sealring/redact"
	"sealring/refhash"
	"sealring/strip"
	"sealring/tree"
)

type node = api.Node

var noVersions = []int{0, -1, 12, 13, 100, math.MinInt, math.MaxInt}

func mapOf(keys []string, values ...node) node { return node{Kind: api.Map, K: keys, L: values} }

func read(t *testing.T, s string) node {
	t.Helper()
	n, _, e := parse.Parse(s)
	if e != api.OK {
		t.Fatalf("%s: %d", s, e)
	}
	return n
}

// named is an event that brings that ID.
func named(id string) node { return tree.Map(tree.Text("event_id"), tree.Text(id)) }

// idOf is the ID, by the library's means, of an event of which that text is kept.
func idOf(v int, text string) string {
	hash := sha256.Sum256([]byte(text))
	if v == 3 {
		return "$" + base64.RawStdEncoding.EncodeToString(hash[:])
	}
	return "$" + base64.RawURLEncoding.EncodeToString(hash[:])
}

func tells(t *testing.T, v int, n node, want string) {
	t.Helper()
	if s, e := eventid.Of(v, n); s != want || e != api.OK {
		t.Errorf("Of(%d, %+v): %q, %d, not %q", v, n, s, e, want)
	}
	all(t, v, []string{want}, n)
}

// refuses asks both calls for one error, All also behind and ahead of what may be.
func refuses(t *testing.T, v int, n node, want api.Errno) {
	t.Helper()
	if s, e := eventid.Of(v, n); s != "" || e != want {
		t.Errorf("Of(%d, ..): %q, %d, not %d", v, s, e, want)
	}
	allRefuses(t, v, want, n)
	allRefuses(t, v, want, n, n)
	allRefuses(t, v, want, n, named("$a:b"))
	if v >= 1 && v <= 11 {
		allRefuses(t, v, want, named("$a:b"), n)
		allRefuses(t, v, want, named("$a:b"), n, named("$a:b"))
	}
}

func all(t *testing.T, v int, want []string, l ...node) {
	t.Helper()
	if ids, e := eventid.All(v, l...); !slices.Equal(ids, want) || e != api.OK {
		t.Errorf("All(%d, %+v): %q, %d, not %q", v, l, ids, e, want)
	}
}

func allRefuses(t *testing.T, v int, want api.Errno, l ...node) {
	t.Helper()
	if ids, e := eventid.All(v, l...); len(ids) != 0 || e != want {
		t.Errorf("All(%d) of %d: %q, %d, not %d", v, len(l), ids, e, want)
	}
}

// own are IDs that an event may bring, and such as it may not, by what is wrong with them.
var own = map[string]api.Errno{
	"$a:b": api.OK, "$a:b.c": api.OK, "$143273582443PhrSn:example.org": api.OK, "$A!~:1.2.3.4:80": api.OK, "$$:[::1]": api.OK, "$@:b": api.OK, "$a/+_-=:b:65535": api.OK,
	"$" + strings.Repeat("a", 252) + ":b": api.OK,
	"$" + strings.Repeat("a", 253) + ":b": api.ErrLong, "@" + strings.Repeat("\xff", 255): api.ErrLong, strings.Repeat("x", 256): api.ErrLong,
	"": api.ErrID, "a": api.ErrID, "$": api.ErrID, "$a": api.ErrID, "$:b": api.ErrID, "a:b": api.ErrID, "@a:b": api.ErrID, "!a:b": api.ErrID, "#a:b": api.ErrID, " $a:b": api.ErrID, "$a b:c": api.ErrID, "$\u00e9:b": api.ErrID, "$\x7f:b": api.ErrID, "$a\x00:b": api.ErrID,
	"$" + strings.Repeat("A", 43): api.ErrID,
	"$a:":                         api.ErrName, "$a:b:": api.ErrName, "$a:b:0": api.ErrName, "$a:b c": api.ErrName, "$a:-": api.ErrName, "$a:1.2.3": api.ErrName, "@a:": api.ErrName, "$a::b": api.ErrName,
	"$a:" + strings.Repeat("b.", 114) + "bb": api.OK,
	"$a:" + strings.Repeat("b.", 115) + "b":  api.ErrLong,
}

func TestP37_1OwnVersions(t *testing.T) {
	for id, want := range own {
		for v := 1; v <= 2; v++ {
			if want != api.OK {
				refuses(t, v, named(id), want)
				continue
			}
			tells(t, v, named(id), id)
			// What else it has counts for nothing.
			tells(t, v, tree.Map(tree.Text("type"), tree.Int(1), tree.Text("event_id"), tree.Text(id), tree.Text("content"), tree.Null()), id)
			tells(t, v, tree.Map(tree.Text("x"), node{}, tree.Text("event_id"), tree.Text(id), tree.Text("y"), tree.Int(1<<60)), id)
		}
	}
}

func TestP37_1OwnVersionsWithoutAnID(t *testing.T) {
	deep := tree.Null()
	for range 1000000 {
		deep = tree.List(deep)
	}
	id := tree.Text("$a:b")
	l := []node{
		tree.Map(), {}, {Kind: 7}, {Kind: -1}, tree.Null(), tree.Bool(true), tree.Int(1), tree.Text("event_id"), id, tree.List(), tree.List(id), tree.List(named("$a:b")), deep,
		mapOf([]string{"event_id"}), mapOf(nil, id), mapOf([]string{"x", "event_id"}, id),
		{Kind: api.List, K: []string{"event_id"}, L: []node{id}},
		tree.Map(tree.Text("Event_id"), id), tree.Map(tree.Text("event_id "), id), tree.Map(tree.Text("event"), id), tree.Map(tree.Text("id"), id), tree.Map(tree.Text(""), id),
		tree.Map(tree.Text("content"), named("$a:b")), tree.Map(tree.Text("unsigned"), named("$a:b")), tree.Map(tree.Text("x"), deep),
		mapOf([]string{"event_id", "event_id"}, tree.Null(), id), // the first one is asked
	}
	for _, v := range []node{{}, tree.Null(), tree.Bool(false), tree.Int(0), tree.List(), tree.List(id), tree.Map(), named("$a:b"), {Kind: 7, S: "$a:b"}, {Kind: api.Int, S: "$a:b"}, deep} {
		l = append(l, tree.Map(tree.Text("event_id"), v))
	}
	for _, n := range l {
		refuses(t, 1, n, api.ErrField)
		refuses(t, 2, n, api.ErrField)
	}
}

// Of an event that may not be the ID is told as well, if it is there.
func TestP37_1OwnVersionsOfWhatMayNotBe(t *testing.T) {
	id, other := tree.Text("$a:b"), tree.Text("$c:d")
	for v := 1; v <= 2; v++ {
		tells(t, v, mapOf([]string{"event_id", "event_id"}, id, other), "$a:b")
		tells(t, v, mapOf([]string{"event_id", "event_id"}, other, tree.Null()), "$c:d")
		tells(t, v, mapOf([]string{"event_id", "x"}, id), "$a:b")
		tells(t, v, mapOf([]string{"event_id"}, id, other), "$a:b")
		tells(t, v, node{Kind: api.Map, N: 1, S: "s", K: []string{"event_id"}, L: []node{id}}, "$a:b")
		tells(t, v, tree.Map(tree.Text("event_id"), node{Kind: api.Text, N: 3, S: "$a:b"}), "$a:b")
		tells(t, v, tree.Map(tree.Text("\xff"), tree.Text("\xff"), tree.Text("event_id"), id), "$a:b")
		refuses(t, v, mapOf([]string{"event_id", "event_id"}, tree.Text("a"), id), api.ErrID)
		refuses(t, v, named("\xff"), api.ErrID)
		refuses(t, v, named("$\xff:b"), api.ErrID)
	}
}

// event has all that is kept of some event, and more.
const event = `{"type":"m.room.member","content":{"x":1,"membership":"join","join_authorised_via_users_server":"@j:a"},"unsigned":{"age":1},"signatures":{"a.b":{"ed25519:1":"s"}},"hashes":{"sha256":"h"},"event_id":"$e:f","room_id":"!r","sender":"@s","state_key":"","depth":1,"origin_server_ts":2,"prev_events":["p"],"auth_events":[],"origin":"o","age":4}`

// kept is the form of that without unsigned and signatures, as versions keep it.
func kept(v int) string {
	content, origin := `"membership":"join"`, `"origin":"o",`
	if v >= 9 {
		content = `"join_authorised_via_users_server":"@j:a",` + content
	}
	if v >= 11 {
		origin = ""
	}
	return `{"auth_events":[],"content":{` + content + `},"depth":1,"event_id":"$e:f","hashes":{"sha256":"h"},` + origin + `"origin_server_ts":2,"prev_events":["p"],"room_id":"!r","sender":"@s","state_key":"","type":"m.room.member"}`
}

func TestP37_1HashesAsIDs(t *testing.T) {
	for v := 3; v <= 11; v++ {
		tells(t, v, read(t, event), idOf(v, kept(v)))
		for text, hashed := range map[string]string{
			`{}`: `{}`,
			`{"signatures":{},"unsigned":{},"body":1}`:                    `{}`,
			`{"event_id":"$a:b"}`:                                         `{"event_id":"$a:b"}`,
			`{"event_id":null}`:                                           `{"event_id":null}`,
			`{"type":"m.room.message","content":{"body":"b"},"depth":-1}`: `{"content":{},"depth":-1,"type":"m.room.message"}`,
		} {
			tells(t, v, read(t, text), idOf(v, hashed))
		}
		if s, _ := eventid.Of(v, tree.Map()); len(s) != 44 || s[0] != '$' {
			t.Error(v, s)
		}
	}
	tells(t, 3, tree.Map(), "$RBNvo1WzZ4oRRq0W9+hknpT7T8If536DEMBg9hyq/4o") // of the bytes {}
	for v := 4; v <= 11; v++ {
		tells(t, v, tree.Map(), "$RBNvo1WzZ4oRRq0W9-hknpT7T8If536DEMBg9hyq_4o")
	}
}

// All signs are met, those by which version 3 differs from later ones, too.
func TestP37_1SignsOfIDs(t *testing.T) {
	for v := 3; v <= 11; v++ {
		met := map[byte]int{}
		for i := range 50 {
			id := idOf(v, `{"depth":`+strconv.Itoa(i)+`}`)
			tells(t, v, tree.Map(tree.Text("depth"), tree.Int(int64(i))), id)
			for _, sign := range []byte(id[1:]) {
				met[sign]++
			}
		}
		if len(met) != 64 || (v == 3) != (met['+'] > 0 && met['/'] > 0) || (v > 3) != (met['-'] > 0 && met['_'] > 0) {
			t.Error(v, met)
		}
	}
}

// badNodes are nodes that have no hash that names them, by what is wrong.
func badNodes() map[api.Errno][]node {
	deep := tree.Null()
	for range 1000000 {
		deep = tree.List(deep)
	}
	id := tree.Text("$a:b")
	return map[api.Errno][]node{
		api.ErrKind:  {{}, {Kind: 7}, {Kind: api.Map, N: 1}, tree.Map(tree.Text("unsigned"), node{}), {Kind: api.List, K: []string{"event_id"}, L: []node{id}}},
		api.ErrRange: {tree.Int(1 << 53), tree.Map(tree.Text("x"), tree.Int(-1<<53)), tree.Map(tree.Text("event_id"), id, tree.Text("x"), tree.Int(1<<53))},
		api.ErrText:  {tree.Text("\xff"), mapOf([]string{"\xff"}, tree.Null()), named("\xff")},
		api.ErrArg:   {mapOf([]string{"event_id"}), mapOf(nil, id), mapOf([]string{"event_id", "x"}, id)},
		api.ErrTwice: {mapOf([]string{"event_id", "event_id"}, id, id), mapOf([]string{"unsigned", "unsigned"}, tree.Null(), tree.Null())},
		api.ErrDeep:  {deep, tree.Map(tree.Text("unsigned"), deep)},
		api.ErrType:  {tree.Null(), tree.Bool(true), tree.Int(1), tree.Text("type"), id, tree.Text(""), tree.List(), tree.List(tree.Map())},
	}
}

func TestP37_1WhatHasNoHash(t *testing.T) {
	for want, l := range badNodes() {
		for _, n := range l {
			for v := 3; v <= 11; v++ {
				refuses(t, v, n, want)
			}
		}
	}
}

func TestP37_1WhatIsNoVersion(t *testing.T) {
	for _, v := range noVersions {
		for _, l := range badNodes() {
			for _, n := range l {
				refuses(t, v, n, api.ErrVersion)
			}
		}
		for id := range own {
			refuses(t, v, named(id), api.ErrVersion)
		}
		refuses(t, v, tree.Map(), api.ErrVersion)
		refuses(t, v, read(t, event), api.ErrVersion)
	}
}

func TestP37_2All(t *testing.T) {
	const many = 50
	a, b, c := named("$a:x"), named("$b:x"), named("$A:x")
	for v := 1; v <= 2; v++ {
		all(t, v, []string{"$b:x", "$a:x", "$A:x"}, b, a, c)
		all(t, v, []string{"$a:x", "$A:x", "$b:x"}, a, c, b)
	}
	for v := 3; v <= 11; v++ {
		all(t, v, []string{idOf(v, `{"event_id":"$b:x"}`), idOf(v, `{}`), idOf(v, `{"event_id":"$a:x"}`)}, b, tree.Map(), a)
	}
	for v := 1; v <= 11; v++ {
		all(t, v, nil)
		all(t, v, nil, []node{}...)
		var l []node
		var want []string
		for i := range many {
			place := i * 7919 % many
			n := tree.Map(tree.Text("depth"), tree.Int(int64(place)), tree.Text("event_id"), tree.Text("$"+strconv.Itoa(place)+":x"))
			id, _ := eventid.Of(v, n)
			l, want = append(l, n), append(want, id)
		}
		all(t, v, want, l...)
		allRefuses(t, v, api.ErrTwice, append(l, l[0])...)
		allRefuses(t, v, api.ErrTwice, append(l, l[many-1])...)
		all(t, v, want, l...) // what was refused has left nothing
	}
}

func TestP37_2Twice(t *testing.T) {
	a, b := named("$a:x"), named("$b:x")
	for v := 1; v <= 11; v++ {
		allRefuses(t, v, api.ErrTwice, a, a)
		allRefuses(t, v, api.ErrTwice, a, b, a)
		allRefuses(t, v, api.ErrTwice, a, b, b)
		allRefuses(t, v, api.ErrTwice, a, b, tree.Put(a, "unsigned", tree.Int(1)))
		allRefuses(t, v, api.ErrTwice, a, b, tree.Put(a, "body", tree.Int(1)))
		other := tree.Put(a, "depth", tree.Int(1))
		if v <= 2 {
			allRefuses(t, v, api.ErrTwice, a, other)
			continue
		}
		all(t, v, []string{idOf(v, `{"event_id":"$a:x"}`), idOf(v, `{"depth":1,"event_id":"$a:x"}`)}, a, other)
		allRefuses(t, v, api.ErrTwice, tree.Map(), tree.Map())
	}
}

// Of several events that are wrong the first one is told.
func TestP37_2WhatIsToldFirst(t *testing.T) {
	a := named("$a:x")
	for v := 1; v <= 2; v++ {
		allRefuses(t, v, api.ErrField, a, tree.Map(), a)
		allRefuses(t, v, api.ErrTwice, a, a, tree.Map())
		allRefuses(t, v, api.ErrID, named("x"), a, a)
		allRefuses(t, v, api.ErrID, a, named("x"), tree.Map())
		allRefuses(t, v, api.ErrField, a, tree.Map(), named("x"))
		allRefuses(t, v, api.ErrName, a, named("$b:"), named("$b:"))
	}
	for v := 3; v <= 11; v++ {
		allRefuses(t, v, api.ErrType, a, tree.Null(), a)
		allRefuses(t, v, api.ErrTwice, a, a, tree.Null())
		allRefuses(t, v, api.ErrType, a, tree.Null(), node{})
		allRefuses(t, v, api.ErrKind, a, node{}, tree.Null())
	}
}

// Where there are no events, none is wrong.
func TestP37_2NoEvents(t *testing.T) {
	for _, v := range noVersions {
		all(t, v, nil)
	}
}

// anyEvent has some fields, in some order, and some of them are no such ones.
func anyEvent(t *testing.T, r *rand.Rand) node {
	t.Helper()
	from := read(t, event)
	n := tree.Map()
	for _, i := range r.Perm(len(from.K))[:r.Intn(len(from.K)+1)] {
		value := from.L[i]
		if from.K[i] != "event_id" && r.Intn(4) == 0 {
			value = tree.Text(strings.Repeat("t", r.Intn(4)))
		}
		n = tree.Put(n, from.K[i], value)
	}
	if r.Intn(2) == 0 {
		kinds := strings.Fields("m.room.member m.room.create m.room.message m.room.power_levels m.room.redaction")
		n = tree.Put(n, "type", tree.Text(kinds[r.Intn(len(kinds))]))
	}
	return n
}

func TestP37_3AnIDIsAnEvents(t *testing.T) {
	r := rand.New(rand.NewSource(37))
	told := map[bool]int{}
	for range 300 {
		v, n := 1+r.Intn(11), anyEvent(t, r)
		id, e := eventid.Of(v, n)
		if _, ok := tree.Get(n, "event_id"); !ok && v <= 2 {
			refuses(t, v, n, api.ErrField)
			continue
		}
		told[v <= 2]++
		if wrong := ident.Event(v, id); e != api.OK || wrong != api.OK {
			t.Errorf("%d, %+v: %q, %d, %d", v, n, id, e, wrong)
		}
	}
	if told[true] < 10 || told[false] < 100 {
		t.Error("too few were told:", told)
	}
}

func TestP37_3WhatIsRedacted(t *testing.T) {
	r := rand.New(rand.NewSource(373))
	for range 120 {
		v, n := 3+r.Intn(9), anyEvent(t, r)
		signing, _ := strip.Signing(v, n)
		id := idOf(v, signing)
		once, e := redact.Redact(v, n)
		if e != api.OK {
			t.Fatal(e)
		}
		for _, n := range []node{n, once, tree.Sorted(n), tree.Put(n, "unsigned", tree.Int(1)), tree.Without(n, "signatures")} {
			tells(t, v, n, id)
		}
		other := tree.Put(n, "depth", tree.Int(77))
		if s, _ := eventid.Of(v, other); (s == id) != refhash.Same(v, n, other) || s == id {
			t.Errorf("%d, %+v: %q, %q", v, n, s, id)
		}
	}
}

func TestP37WhatIsHandedInIsNotChanged(t *testing.T) {
	n := read(t, event)
	l := append(make([]node, 0, 8), n, tree.Map(), named("$a:b"))
	for v := 1; v <= 11; v++ {
		eventid.Of(v, n)
		eventid.All(v, l...)
	}
	if !tree.Exact(n, read(t, event)) {
		t.Errorf("%+v", n)
	}
	if want := []node{n, tree.Map(), named("$a:b"), {}}; !tree.Exact(tree.List(l[:4]...), tree.List(want...)) {
		t.Errorf("%+v", l)
	}
}

func TestP7EveryCallEnds(t *testing.T) {
	for i := range 64 {
		for _, v := range []int{1 << i, 1<<i - 1, -1 << i} {
			for kind := -1; kind < 8; kind++ {
				n := node{Kind: kind, N: 1, S: "$a:b", K: []string{"event_id", "type"}, L: []node{{Kind: kind, S: "$a:b"}}}
				eventid.Of(v, n)
				eventid.All(v, n, n, node{})
			}
		}
	}
	eventid.All(3, nil...)
}
