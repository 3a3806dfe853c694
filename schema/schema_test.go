package schema_test

import (
	"math"
	"slices"
	"strconv"
	"strings"
	"testing"

	"sealring/api"
	"sealring/canon"
	"sealring/parse"
	"sealring/schema"
	"sealring/tree"
)

type node = api.Node
type rule = api.Rule

var noVersions = []int{0, -1, 12, 13, 100, math.MinInt, math.MaxInt}

func mapOf(keys []string, values ...node) node { return node{Kind: api.Map, K: keys, L: values} }

func read(t *testing.T, s string) node {
	t.Helper()
	n, _, e := parse.Parse(s)
	if e != api.OK {
		t.Fatalf("%s: %d", s, e)
	}
	return n
}

func isOwn(v int) bool { return v <= 2 }

// hash and sign are of 32 and of 64 noughts.
var (
	hash = strings.Repeat("A", 43)
	sign = strings.Repeat("A", 86)
)

// wantRules are those of a version, written out.
func wantRules(v int) []rule {
	l := []rule{
		{Name: "type", Kind: 4, Must: true, Most: 255},
		{Name: "room_id", Kind: 4, Must: true},
		{Name: "sender", Kind: 4, Must: true},
		{Name: "content", Kind: 6, Must: true},
		{Name: "depth", Kind: 3, Must: true, Low: true},
		{Name: "origin_server_ts", Kind: 3, Must: true, Low: true},
		{Name: "prev_events", Kind: 5, Must: true},
		{Name: "auth_events", Kind: 5, Must: true},
		{Name: "hashes", Kind: 6, Must: true},
		{Name: "signatures", Kind: 6, Must: true},
		{Name: "state_key", Kind: 4, Most: 255},
		{Name: "unsigned", Kind: 6},
		{Name: "origin", Kind: 4},
		{Name: "redacts", Kind: 4},
	}
	if isOwn(v) {
		l = append(l, rule{Name: "event_id", Kind: 4, Must: true})
	}
	return l
}

func TestP31_1Rules(t *testing.T) {
	for v := 1; v <= 11; v++ {
		for range 2 { // what is done to an answer doesn't tell on the next one
			l, e := schema.Rules(v)
			if !slices.Equal(l, wantRules(v)) || e != api.OK {
				t.Errorf("Rules(%d): %+v, %d", v, l, e)
			}
			clear(l)
		}
	}
	for _, v := range noVersions {
		if l, e := schema.Rules(v); len(l) != 0 || e != api.ErrVersion {
			t.Errorf("Rules(%d): %+v, %d", v, l, e)
		}
	}
}

// idOf is the i-th of the IDs that events of a version may have.
func idOf(v, i int) string {
	n := strconv.Itoa(i)
	behind := strings.Repeat("A", 40-len(n)) + n + "A"
	switch {
	case isOwn(v):
		return "$" + n + ":a.b"
	case v == 3:
		return "$+/" + behind
	}
	return "$-_" + behind
}

// named is a name of an event, as the version has it.
func named(v int, id string) node {
	if !isOwn(v) {
		return tree.Text(id)
	}
	return tree.List(tree.Text(id), tree.Map(tree.Text("sha256"), tree.Text(hash)))
}

// refs names so many events, from the i-th one on.
func refs(v, i, many int) node {
	l := tree.List()
	for j := range many {
		l.L = append(l.L, named(v, idOf(v, i+j)))
	}
	return l
}

// least is an event that has just what a version asks for.
func least(t *testing.T, v int) node {
	t.Helper()
	n := read(t, `{"type":"","room_id":"!r:a.b","sender":"@s:a.b","content":{},"depth":0,"origin_server_ts":0,"prev_events":[],"auth_events":[],"hashes":{"sha256":"`+hash+`"},"signatures":{}}`)
	if isOwn(v) {
		n = tree.Put(n, "event_id", tree.Text(idOf(v, 0)))
	}
	return n
}

// full has whatever else it may have, too.
func full(t *testing.T, v int) node {
	t.Helper()
	n := read(t, `{"unsigned":{"age":-1},"more":[null],"origin":"a.b:80","state_key":"k","signatures":{"c.d":{"ed25519:2":"`+sign+`","ed25519:1":"`+sign+`"},"[::1]:8":{},"a.b":{"ed25519:a_B":"`+sign+`"}},"hashes":{"md5":1,"sha256":"`+hash+`","x":{}},"origin_server_ts":9007199254740991,"depth":7,"content":{"type":1,"event_id":2,"body":["x",null]},"sender":"@s:a.b:1","room_id":"!R:[1:2::]","type":"m.room.member"}`)
	n = tree.Put(tree.Put(n, "prev_events", refs(v, 0, 20)), "auth_events", refs(v, 0, 10))
	n = tree.Put(n, "redacts", tree.Text(idOf(v, 1)))
	if isOwn(v) {
		n = tree.Put(n, "event_id", tree.Text(idOf(v, 0)))
	}
	return n
}

// shown is how a node is told, cut short.
func shown(n node) string {
	s, e := canon.Encode(n)
	if e != api.OK {
		return "a node with the error " + strconv.Itoa(int(e))
	}
	return s[:min(len(s), 1000)]
}

func checks(t *testing.T, v int, n node, name string, want api.Errno) {
	t.Helper()
	if got, e := schema.Check(v, n); got != name || e != want {
		t.Errorf("Check(%d, %s): %q, %d, not %q, %d", v, shown(n), got, e, name, want)
	}
	if schema.Mays(v, n) != (want == api.OK) {
		t.Errorf("Mays(%d, %s): %v", v, shown(n), want != api.OK)
	}
}

// eachVersion does something with each version, its least event and its full one.
func eachVersion(t *testing.T, do func(v int, n node)) {
	t.Helper()
	for v := 1; v <= 11; v++ {
		do(v, least(t, v))
		do(v, full(t, v))
	}
}

// sets checks events one of whose fields has another value; without an error there is no name.
func sets(t *testing.T, v int, n node, key string, value node, want api.Errno) {
	t.Helper()
	name := key
	if want == api.OK {
		name = ""
	}
	checks(t, v, tree.Put(n, key, value), name, want)
}

// ofKinds is a node of each kind.
var ofKinds = []node{tree.Null(), tree.Bool(true), tree.Int(3), tree.Text("x"), tree.List(), tree.Map()}

func TestP31_2WhatMayBe(t *testing.T) {
	eachVersion(t, func(v int, n node) {
		checks(t, v, n, "", api.OK)
		for _, value := range append(ofKinds, n) {
			for _, key := range []string{"", "x", "Type", "prev_state", "membership", "age", "event_id ", "sha256"} {
				sets(t, v, n, key, value, api.OK)
			}
		}
		back := tree.Map()
		for i := range n.K {
			j := len(n.K) - 1 - i
			back = tree.Put(back, n.K[j], n.L[j])
		}
		checks(t, v, back, "", api.OK)
	})
}

// in is a node in so many lists.
func in(lists int, n node) node {
	for range lists {
		n = tree.List(n)
	}
	return n
}

// mayNotBe are nodes that may not be, by what is wrong with them.
func mayNotBe() map[api.Errno][]node {
	return map[api.Errno][]node{
		api.ErrKind:  {{}, {Kind: 7}, {Kind: api.Map, N: 1}, {Kind: api.List, S: "a"}},
		api.ErrRange: {tree.Int(1 << 53), {Kind: api.Bool, N: 2}},
		api.ErrText:  {tree.Text("\xff"), mapOf([]string{"\xff"}, tree.Null())},
		api.ErrArg:   {mapOf([]string{"type"}), mapOf(nil, tree.Null())},
		api.ErrTwice: {mapOf([]string{"x", "x"}, tree.Null(), tree.Null())},
		api.ErrDeep:  {in(64, tree.Null()), in(100000, tree.Null())},
	}
}

func TestP31_2NoVersion(t *testing.T) {
	for _, v := range noVersions {
		for _, n := range append(ofKinds, least(t, 1), full(t, 11)) {
			checks(t, v, n, "", api.ErrVersion)
		}
		for _, l := range mayNotBe() {
			for _, n := range l {
				if _, e := schema.Check(v, n); e != api.ErrVersion {
					t.Errorf("Check(%d): %d", v, e)
				}
			}
		}
	}
}

func TestP31_2WhatMayNotBe(t *testing.T) {
	for want, l := range mayNotBe() {
		for _, bad := range l {
			for v := 1; v <= 11; v++ {
				inside := tree.Put(full(t, v), "x", bad)
				for _, key := range []string{"type", "content", "hashes", "signatures", "state_key", "unsigned", "event_id"} {
					inside = tree.Put(inside, key, bad)
				}
				for _, n := range []node{bad, inside, tree.Put(least(t, v), "unsigned", tree.Map(tree.Text("x"), bad)), tree.Put(tree.Map(), "x", bad)} {
					if name, e := schema.Check(v, n); name != "" || e != want {
						t.Errorf("Check(%d): %q, %d, not %d", v, name, e, want)
					}
				}
			}
		}
	}
	eachVersion(t, func(v int, n node) {
		twice := mapOf(append(slices.Clone(n.K), "type"), append(slices.Clone(n.L), tree.Text(""))...)
		checks(t, v, twice, "", api.ErrTwice)
	})
}

func TestP31_2NoMap(t *testing.T) {
	for v := 1; v <= 11; v++ {
		for _, n := range append(ofKinds, tree.List(full(t, v))) {
			if n.Kind != api.Map {
				checks(t, v, n, "", api.ErrType)
			}
		}
		checks(t, v, tree.Map(), "type", api.ErrField)
		checks(t, v, tree.Map(tree.Text("type"), tree.Text("")), "room_id", api.ErrField)
	}
}

func TestP31_2FieldsAndTheirKinds(t *testing.T) {
	eachVersion(t, func(v int, n node) {
		for _, r := range wantRules(v) {
			if r.Must {
				checks(t, v, tree.Without(n, r.Name), r.Name, api.ErrField)
			} else {
				checks(t, v, tree.Without(n, r.Name), "", api.OK)
			}
			for _, value := range ofKinds {
				if value.Kind != r.Kind {
					sets(t, v, n, r.Name, value, api.ErrType)
				}
			}
		}
	})
}

func TestP31_2LongAndLow(t *testing.T) {
	eachVersion(t, func(v int, n node) {
		for _, key := range []string{"type", "state_key"} {
			for _, s := range []string{"", "a", strings.Repeat("a", 255), strings.Repeat("\u00e9", 127) + "a"} {
				sets(t, v, n, key, tree.Text(s), api.OK)
			}
			for _, s := range []string{strings.Repeat("a", 256), strings.Repeat("\u00e9", 128), strings.Repeat("a", 70000)} {
				sets(t, v, n, key, tree.Text(s), api.ErrLong)
			}
		}
		for _, key := range []string{"depth", "origin_server_ts"} {
			for _, i := range []int64{0, 1, api.MaxInt} {
				sets(t, v, n, key, tree.Int(i), api.OK)
			}
			for _, i := range []int64{-1, -api.MaxInt} {
				sets(t, v, n, key, tree.Int(i), api.ErrRange)
			}
		}
		for _, i := range []int64{-api.MaxInt, -1} {
			sets(t, v, n, "x", tree.Int(i), api.OK)
		}
	})
}

func TestP31_2AnIDThatIsNotAsked(t *testing.T) {
	for v := 3; v <= 11; v++ {
		for _, value := range append(ofKinds, tree.Text(idOf(v, 1)), tree.Text(idOf(1, 1)), tree.Text("")) {
			for _, n := range []node{least(t, v), full(t, v)} {
				sets(t, v, n, "event_id", value, api.ErrMore)
			}
		}
	}
}

// name is a server's name of so many bytes.
func name(bytes int) string { return strings.Repeat(strings.Repeat("a", 49)+".", bytes/50+1)[:bytes] }

// threeParts are texts that begin with a sign, and what is wrong with them as identifiers of that sign.
func threeParts(sign string) map[string]api.Errno {
	return map[string]api.Errno{
		sign + "a:b.c": api.OK, sign + "a:b.c:65535": api.OK, sign + "a:[::1]": api.OK, sign + "a=/.-:1.2.3.4": api.OK,
		"": api.ErrID, sign: api.ErrID, sign + "a": api.ErrID, sign + ":b.c": api.ErrID, "a:b.c": api.ErrID, " " + sign + "a:b.c": api.ErrID, sign + "a b:c": api.ErrID, sign + "\u00e9:b.c": api.ErrID, "#a:b.c": api.ErrID,
		sign + "a:": api.ErrName, sign + "a:b..c": api.ErrName, sign + "a:b.c:0": api.ErrName, sign + "a:b.c:65536": api.ErrName, sign + "a:1.2.3": api.ErrName, sign + "a:b c": api.ErrName,
		sign + "a:" + name(230): api.OK, sign + "a:" + name(231): api.ErrLong,
		sign + strings.Repeat("a", 250) + ":b.c": api.OK, sign + strings.Repeat("a", 251) + ":b.c": api.ErrLong, strings.Repeat(" ", 256): api.ErrLong,
	}
}

func TestP31_2Identifiers(t *testing.T) {
	eachVersion(t, func(v int, n node) {
		fields := map[string]string{"room_id": "!", "sender": "@"}
		if isOwn(v) {
			fields["event_id"], fields["redacts"] = "$", "$"
		}
		for key, sign := range fields {
			for s, want := range threeParts(sign) {
				sets(t, v, n, key, tree.Text(s), want)
			}
			for _, other := range []string{"!", "@", "$"} {
				if other != sign {
					sets(t, v, n, key, tree.Text(other+"a:b.c"), api.ErrID)
				}
			}
		}
		sets(t, v, n, "sender", tree.Text("@A:b.c"), api.ErrID)
		sets(t, v, n, "room_id", tree.Text("!A:b.c"), api.OK)
	})
}

func TestP31_2RedactsOfHashes(t *testing.T) {
	for v := 3; v <= 11; v++ {
		for s, want := range map[string]api.Errno{
			idOf(v, 5): api.OK, "$" + hash: api.OK,
			"": api.ErrID, "$": api.ErrID, hash: api.ErrID, "$a:b.c": api.ErrID, "!" + hash: api.ErrID, "$" + hash[1:]: api.ErrID, "$A" + hash: api.ErrID, "$" + hash[1:] + "B": api.ErrID, "$" + hash + "=": api.ErrID,
			strings.Repeat("$", 256): api.ErrLong,
		} {
			sets(t, v, least(t, v), "redacts", tree.Text(s), want)
			sets(t, v, full(t, v), "redacts", tree.Text(s), want)
		}
		for other := 1; other <= 11; other++ {
			want := api.OK
			if isOwn(other) || (v == 3) != (other == 3) {
				want = api.ErrID
			}
			sets(t, v, full(t, v), "redacts", tree.Text(idOf(other, 5)), want)
		}
	}
}

func TestP31_2Origin(t *testing.T) {
	eachVersion(t, func(v int, n node) {
		for s, want := range map[string]api.Errno{
			"a": api.OK, "a.b:1": api.OK, "1.2.3.4": api.OK, "[::]:65535": api.OK, name(230): api.OK,
			"": api.ErrName, "a..b": api.ErrName, "a.b:": api.ErrName, "a.b:0": api.ErrName, "1.2.3": api.ErrName, "[::1": api.ErrName, "@a:b": api.ErrName, "a_b": api.ErrName,
			name(231): api.ErrLong, strings.Repeat(" ", 231): api.ErrLong,
		} {
			sets(t, v, n, "origin", tree.Text(s), want)
		}
	})
}

func TestP31_2Refs(t *testing.T) {
	eachVersion(t, func(v int, n node) {
		for key, most := range map[string]int{"prev_events": 20, "auth_events": 10} {
			for many := range most + 1 {
				sets(t, v, n, key, refs(v, 3, many), api.OK)
			}
			sets(t, v, n, key, refs(v, 0, most+1), api.ErrMany)
			sets(t, v, n, key, refs(v, 0, 50), api.ErrMany)
			sets(t, v, n, key, tree.List(slices.Repeat(ofKinds, 4)...), api.ErrMany)
			for _, kind := range ofKinds {
				if isOwn(v) || kind.Kind != api.Text {
					sets(t, v, n, key, tree.List(named(v, idOf(v, 0)), kind), api.ErrType)
				}
			}
			for other := 1; other <= 11; other++ {
				want := api.OK
				if isOwn(v) != isOwn(other) {
					want = api.ErrType
				} else if (v == 3) != (other == 3) {
					want = api.ErrID
				}
				sets(t, v, n, key, refs(other, 0, 1), want)
			}
			sets(t, v, n, key, tree.List(named(v, idOf(v, 0)), named(v, "$")), api.ErrID)
			sets(t, v, n, key, tree.List(named(v, idOf(v, 0)), named(v, idOf(v, 1)), named(v, idOf(v, 0))), api.ErrTwice)
		}
	})
}

func TestP31_2RefsInPairs(t *testing.T) {
	for v := 1; v <= 2; v++ {
		id := tree.Text(idOf(v, 0))
		for _, key := range []string{"prev_events", "auth_events"} {
			n := full(t, v)
			sets(t, v, n, key, tree.List(tree.List(id, tree.Map())), api.ErrType)
			sets(t, v, n, key, tree.List(tree.List(id)), api.ErrType)
			sets(t, v, n, key, tree.List(tree.List(id, tree.Map(tree.Text("sha256"), tree.Text("x")))), api.ErrHash)
			sets(t, v, n, key, tree.List(named(v, idOf(3, 0))), api.ErrID)
		}
	}
}

func TestP31_2Hashes(t *testing.T) {
	eachVersion(t, func(v int, n node) {
		of := func(l ...node) node { return tree.Map(l...) }
		sha, x := tree.Text("sha256"), tree.Text("x")
		good := tree.Text("+/" + hash[2:])
		sets(t, v, n, "hashes", of(sha, good), api.OK)
		sets(t, v, n, "hashes", of(x, tree.Null(), sha, good, tree.Text("sha512"), tree.Text("")), api.OK)
		sets(t, v, n, "hashes", of(), api.ErrField)
		for _, key := range []string{"x", "sha512", "SHA256", "sha256 ", ""} {
			sets(t, v, n, "hashes", of(tree.Text(key), good), api.ErrField)
		}
		for _, value := range ofKinds {
			if value.Kind != api.Text {
				sets(t, v, n, "hashes", of(sha, value), api.ErrType)
			}
		}
		for _, s := range []string{"", "x", hash[1:], hash + "A", hash + "=", "-_" + hash[2:], hash[1:] + "B", sign, "\u00e9" + hash[2:]} {
			sets(t, v, n, "hashes", of(sha, tree.Text(s)), api.ErrHash)
			sets(t, v, n, "hashes", of(x, good, sha, tree.Text(s)), api.ErrHash)
		}
	})
}

// wrong is an entry, and what is wrong with it.
type wrong struct {
	key   string
	value node
	e     api.Errno
}

// wrongSigns are entries of one server's signatures.
func wrongSigns() []wrong {
	good := tree.Text(sign)
	l := []wrong{
		{"", good, api.ErrID}, {"ed25519:", good, api.ErrID}, {"ed25519", good, api.ErrID}, {"1", good, api.ErrID}, {"ed25519:-", good, api.ErrID}, {"ed25519:\u00e9", good, api.ErrID}, {"ED25519:1", good, api.ErrID}, {" ed25519:1", good, api.ErrID}, {"rsa:1", good, api.ErrID},
		{"x", tree.Null(), api.ErrID}, {"x", tree.Text(""), api.ErrID},
		{"ed25519:" + strings.Repeat("a", 248), good, api.ErrLong}, {strings.Repeat(" ", 256), tree.Null(), api.ErrLong},
	}
	for i, s := range []string{"", "x", hash, sign[1:], sign + "A", sign + "==", "-_" + sign[2:], sign[1:] + "B"} {
		l = append(l, wrong{"ed25519:s" + strconv.Itoa(i), tree.Text(s), api.ErrSign})
	}
	for i, value := range ofKinds {
		if value.Kind != api.Text {
			l = append(l, wrong{"ed25519:k" + strconv.Itoa(i), value, api.ErrType})
		}
	}
	return l
}

// wrongServers are entries of a field signatures.
func wrongServers() []wrong {
	good := tree.Map(tree.Text("ed25519:1"), tree.Text(sign))
	l := []wrong{
		{"", good, api.ErrName}, {"a..b", good, api.ErrName}, {"a.b:0", good, api.ErrName}, {"1.2.3", tree.Map(), api.ErrName}, {"@a:b", tree.Map(), api.ErrName}, {"a_b", tree.Null(), api.ErrName},
		{name(231), good, api.ErrLong}, {strings.Repeat(" ", 231), tree.Null(), api.ErrLong},
	}
	for i, value := range append(ofKinds, tree.List(good)) {
		if value.Kind != api.Map {
			l = append(l, wrong{"k" + strconv.Itoa(i), value, api.ErrType})
		}
	}
	for i, w := range wrongSigns() {
		l = append(l, wrong{"s" + strconv.Itoa(i), tree.Map(tree.Text(w.key), w.value), w.e})
	}
	return l
}

func TestP31_2Signatures(t *testing.T) {
	eachVersion(t, func(v int, n node) {
		for _, s := range []string{
			`{}`, `{"a.b":{}}`, `{"a.b":{"ed25519:1":"` + sign + `"}}`, `{"[::1]:80":{"ed25519:a_Z9":"+/` + sign[2:] + `","ed25519:` + strings.Repeat("a", 247) + `":"` + sign + `"},"` + name(230) + `":{"ed25519:1":"` + sign + `"},"A":{}}`,
		} {
			sets(t, v, n, "signatures", read(t, s), api.OK)
		}
		for _, w := range wrongServers() {
			sets(t, v, n, "signatures", tree.Map(tree.Text(w.key), w.value), w.e)
		}
	})
}

// The first wrong entry that stands there is told, whatever the order of the keys is.
func TestP31_2TheFirstSignatureIsTold(t *testing.T) {
	entry := func(w wrong) []node { return []node{tree.Text(w.key), w.value} }
	ahead := wrong{"n.n", tree.Map(tree.Text("ed25519:n"), tree.Text(sign)), api.OK}
	within := wrong{"ed25519:n", tree.Text(sign), api.OK}
	n := least(t, 4)
	both := func(l []wrong, good wrong, check func(entries node, want api.Errno)) {
		for _, a := range l {
			for _, b := range l {
				if a.key != b.key {
					check(tree.Map(slices.Concat(entry(a), entry(b))...), a.e)
					check(tree.Map(slices.Concat(entry(good), entry(a), entry(b))...), a.e)
				}
			}
		}
	}
	both(wrongServers(), ahead, func(entries node, want api.Errno) { sets(t, 4, n, "signatures", entries, want) })
	both(wrongSigns(), within, func(entries node, want api.Errno) {
		sets(t, 4, n, "signatures", tree.Map(tree.Text("x.y"), entries), want)
		// What stands in the one server's entry is ahead of the next server.
		sets(t, 4, n, "signatures", tree.Map(tree.Text("x.y"), entries, tree.Text(""), tree.Null()), want)
	})
}

func TestP31_2Size(t *testing.T) {
	eachVersion(t, func(v int, n node) {
		for _, key := range []string{"unsigned", "content", "x", "signatures"} {
			fill := func(more int) node {
				n := tree.Put(n, key, tree.Map(tree.Text("a.b"), tree.Map()))
				size, _ := canon.Size(n)
				return tree.Put(n, strings.Repeat("k", 65536-size-len(`,"":0`)+more), tree.Int(0))
			}
			checks(t, v, fill(-1), "", api.OK)
			checks(t, v, fill(0), "", api.OK)
			checks(t, v, fill(1), "", api.ErrBig)
		}
		checks(t, v, tree.Put(n, "unsigned", tree.Map(tree.Text("x"), tree.Text(strings.Repeat("a", 1<<18)))), "", api.ErrBig)
		checks(t, v, tree.Put(n, "content", tree.Map(tree.Text("x"), tree.Text(strings.Repeat("\x00", 11000)))), "", api.ErrBig)
	})
}

// fault is what may be wrong with an event, and how it comes to be so.
type fault struct {
	name string
	e    api.Errno
	put  func(n node) node
}

func set(name string, e api.Errno, key string, value node) fault {
	return fault{name, e, func(n node) node { return tree.Put(n, key, value) }}
}

func drop(name string) fault {
	return fault{name, api.ErrField, func(n node) node { return tree.Without(n, name) }}
}

// faults are such of a version, in the order in which they are looked for.
func faults(v int) []fault {
	long := tree.Text(strings.Repeat("a", 256))
	l := []fault{
		set("", api.ErrRange, "x", tree.Int(1<<53)),
		set("type", api.ErrLong, "type", long),
		set("room_id", api.ErrType, "room_id", tree.Null()),
		drop("sender"),
		set("content", api.ErrType, "content", tree.Text("")),
		set("depth", api.ErrRange, "depth", tree.Int(-1)),
		drop("origin_server_ts"),
		set("prev_events", api.ErrType, "prev_events", tree.Map()),
		drop("auth_events"),
		set("hashes", api.ErrType, "hashes", tree.List()),
		drop("signatures"),
		set("state_key", api.ErrLong, "state_key", long),
		set("unsigned", api.ErrType, "unsigned", tree.Null()),
		set("origin", api.ErrType, "origin", tree.Int(1)),
		set("redacts", api.ErrType, "redacts", tree.List()),
	}
	if isOwn(v) {
		l = append(l, drop("event_id"))
	} else {
		l = append(l, set("event_id", api.ErrMore, "event_id", tree.Null()))
	}
	l = append(l, set("room_id", api.ErrID, "room_id", tree.Text("x")), set("sender", api.ErrName, "sender", tree.Text("@a:")))
	if isOwn(v) {
		l = append(l, set("event_id", api.ErrLong, "event_id", long))
	}
	return append(l,
		set("redacts", api.ErrID, "redacts", tree.Text("x")),
		set("origin", api.ErrName, "origin", tree.Text("")),
		set("prev_events", api.ErrMany, "prev_events", refs(v, 0, 21)),
		set("auth_events", api.ErrTwice, "auth_events", tree.List(refs(v, 0, 1).L[0], refs(v, 0, 1).L[0])),
		set("hashes", api.ErrField, "hashes", tree.Map()),
		set("signatures", api.ErrSign, "signatures", tree.Map(tree.Text("a.b"), tree.Map(tree.Text("ed25519:1"), tree.Text("")))),
		set("", api.ErrBig, "y", tree.Text(strings.Repeat("a", 65536))),
	)
}

func TestP31_2TheFirstIsTold(t *testing.T) {
	eachVersion(t, func(v int, n node) {
		l := faults(v)
		for i, a := range l {
			checks(t, v, a.put(n), a.name, a.e)
			for _, b := range l[i+1:] {
				// Of two in one field the one that is put behind stays.
				checks(t, v, a.put(b.put(n)), a.name, a.e)
			}
			all := n
			for _, b := range slices.Backward(l[i:]) {
				all = b.put(all)
			}
			checks(t, v, all, a.name, a.e)
			for _, none := range noVersions {
				checks(t, none, a.put(n), "", api.ErrVersion)
			}
		}
	})
}

func TestP31_3Mays(t *testing.T) {
	for v := 1; v <= 11; v++ {
		good := []node{least(t, v), full(t, v), full(t, v)}
		if !schema.Mays(v) || !schema.Mays(v, good...) || !schema.Mays(v, good[:1]...) {
			t.Errorf("Mays(%d): false", v)
		}
		for _, a := range faults(v) {
			bad := a.put(good[0])
			for i := range len(good) + 1 {
				if schema.Mays(v, slices.Insert(slices.Clone(good), i, bad)...) {
					t.Errorf("Mays(%d): true of one with %q, %d", v, a.name, a.e)
				}
			}
			if schema.Mays(v, bad) || schema.Mays(v, bad, bad) {
				t.Errorf("Mays(%d): true of %q, %d", v, a.name, a.e)
			}
		}
	}
	for _, v := range noVersions {
		if schema.Mays(v, least(t, 1)) || schema.Mays(v, least(t, 3), full(t, 3)) {
			t.Errorf("Mays(%d): true", v)
		}
	}
	if schema.Mays(1, least(t, 1), least(t, 3)) || schema.Mays(3, least(t, 3), least(t, 1)) {
		t.Error("events of another version")
	}
}

// Of none nothing is asked, not even of the version.
func TestP31_3MaysOfNone(t *testing.T) {
	for _, v := range append([]int{1, 5, 11}, noVersions...) {
		if !schema.Mays(v) || !schema.Mays(v, []node{}...) {
			t.Errorf("Mays(%d): false", v)
		}
	}
}

func TestP31WhatIsHandedInIsNotChanged(t *testing.T) {
	for v := 1; v <= 11; v++ {
		for _, made := range []func(t *testing.T, v int) node{least, full} {
			n, before := made(t, v), made(t, v)
			schema.Check(v, n)
			schema.Mays(v, n, n)
			if !tree.Exact(n, before) {
				t.Errorf("%d: %s", v, shown(n))
			}
		}
	}
}
