package verdict_test

import (
	"bytes"
	"crypto/ed25519"
	"crypto/sha256"
	"encoding/base64"
	"encoding/json"
	"maps"
	"math"
	"math/rand"
	"slices"
	"strings"
	"testing"

	"sealring/api"
	"sealring/canon"
	"sealring/keyring"
	"sealring/parse"
	"sealring/tree"
	"sealring/verdict"
)

type (
	node   = api.Node
	fields = map[string]any
	list   = []any
)

var noVersions = []int{0, -1, 12, 13, 100, math.MinInt, math.MaxInt}

func mapOf(keys []string, values ...node) node { return node{Kind: api.Map, K: keys, L: values} }

func names(l ...string) []string { return l }

func isOwn(v int) bool { return v <= 2 }

// form is a value's one form, by the library's means.
func form(t *testing.T, value any) string {
	t.Helper()
	var b bytes.Buffer
	w := json.NewEncoder(&b)
	w.SetEscapeHTML(false)
	if e := w.Encode(value); e != nil {
		t.Fatal(e)
	}
	return strings.TrimSuffix(b.String(), "\n")
}

func read(t *testing.T, s string) node {
	t.Helper()
	n, _, e := parse.Parse(s)
	if e != api.OK {
		t.Fatalf("%s: %d", s, e)
	}
	return n
}

func nodeOf(t *testing.T, m fields) node {
	t.Helper()
	return read(t, form(t, m))
}

// seedOf is one of many seeds, and keyOf its key, by the library's means.
func seedOf(i int) string { return strings.Repeat(string(rune('a'+i)), 32) }

func keyOf(i int) ed25519.PrivateKey { return ed25519.NewKeyFromSeed([]byte(seedOf(i))) }

func publicOf(i int) string { return string(keyOf(i).Public().(ed25519.PublicKey)) }

// base64Of is how bytes stand in an event.
func base64Of(b []byte) string { return base64.RawStdEncoding.EncodeToString(b) }

// with is a copy of m whose fields are these, two by two.
func with(m fields, l ...any) fields {
	m = maps.Clone(m)
	for i := 0; i < len(l); i += 2 {
		m[l[i].(string)] = l[i+1]
	}
	return m
}

func without(m fields, keys ...string) fields {
	m = maps.Clone(m)
	for _, key := range keys {
		delete(m, key)
	}
	return m
}

func only(m fields, keys ...string) fields {
	out := fields{}
	for _, key := range keys {
		if value, ok := m[key]; ok {
			out[key] = value
		}
	}
	return out
}

// kept is what a version keeps of an event of one of the types that are met here.
func kept(v int, m fields) fields {
	content := m["content"].(fields)
	keys := names("auth_events", "content", "depth", "event_id", "hashes", "origin_server_ts", "prev_events", "room_id", "sender", "signatures", "state_key", "type")
	if v < 11 {
		keys = append(keys, "membership", "origin", "prev_state")
	}
	m = only(m, keys...)
	switch {
	case m["type"] == "m.room.create" && v >= 11:
	case m["type"] == "m.room.create":
		m["content"] = only(content, "creator")
	case m["type"] == "m.room.member" && v >= 9:
		m["content"] = only(content, "membership", "join_authorised_via_users_server")
	case m["type"] == "m.room.member":
		m["content"] = only(content, "membership")
	default:
		m["content"] = fields{}
	}
	return m
}

// pairs are the entries, in any order.
func pairs(m fields) []any {
	var l []any
	for key, value := range m {
		l = append(l, key, value)
	}
	return l
}

// signing is what is signed of an event, and whose hash names it.
func signing(t *testing.T, v int, m fields) string {
	t.Helper()
	return form(t, without(kept(v, m), "unsigned", "signatures"))
}

// hashed has the hash of its content.
func hashed(t *testing.T, m fields) fields {
	t.Helper()
	hash := sha256.Sum256([]byte(form(t, without(m, "unsigned", "signatures", "hashes"))))
	return with(m, "hashes", fields{"sha256": base64Of(hash[:])})
}

// signedBy has the signature of a server's key, and no other one.
func signedBy(t *testing.T, v int, m fields, server, key string, seed int) fields {
	t.Helper()
	signature := base64Of(ed25519.Sign(keyOf(seed), []byte(signing(t, v, m))))
	return with(m, "signatures", fields{server: fields{key: signature}})
}

// signed has the one that passes.
func signed(t *testing.T, v int, m fields) fields {
	t.Helper()
	return signedBy(t, v, m, "a.b", "ed25519:1", 0)
}

// idOf is the event's ID, by the library's means.
func idOf(t *testing.T, v int, m fields) string {
	t.Helper()
	if isOwn(v) {
		return m["event_id"].(string)
	}
	hash := sha256.Sum256([]byte(signing(t, v, m)))
	if v == 3 {
		return "$" + base64Of(hash[:])
	}
	return "$" + base64.RawURLEncoding.EncodeToString(hash[:])
}

// bare is an event without its hash and its signature.
func bare(v int) fields {
	m := fields{
		"type": "m.room.member", "room_id": "!r:o", "sender": "@s:a.b", "state_key": "@s:a.b", "depth": 7, "origin_server_ts": 8, "origin": "o", "unsigned": fields{"age": 1}, "age": list{nil, true},
		"content":     fields{"membership": "join", "join_authorised_via_users_server": "@j:a", "displayname": "<\u00e9>"},
		"prev_events": list{}, "auth_events": list{},
	}
	if isOwn(v) {
		m["event_id"] = "$e:a.b"
	}
	return m
}

// whole passes as it is.
func whole(t *testing.T, v int) fields {
	t.Helper()
	return signed(t, v, hashed(t, bare(v)))
}

// ringOf has the key by which whole is signed, and others.
func ringOf(t *testing.T) *keyring.Ring {
	t.Helper()
	r := keyring.New()
	for i, server := range names("a.b", "c.d") {
		for j, key := range names("ed25519:1", "ed25519:2") {
			if e := r.Put(server, key, publicOf(2*i+j)); e != api.OK {
				t.Fatal(e)
			}
		}
	}
	return r
}

// shown is how a node is told, cut short.
func shown(n node) string {
	s, _ := canon.Encode(n)
	return s[:min(len(s), 1000)]
}

// judges asks for a verdict, and for the event as it is taken.
func judges(t *testing.T, v int, r *keyring.Ring, n node, want api.Verdict, taken node) {
	t.Helper()
	x, got := verdict.Judge(v, r, n)
	if x != want || !tree.Exact(tree.Sorted(got), tree.Sorted(taken)) {
		t.Errorf("Judge(%d, %s): %+v, %s, not %+v, %s", v, shown(n), x, shown(got), want, shown(taken))
	}
	if verdict.Passes(x) != (want.Err == api.OK) {
		t.Errorf("Passes(%+v)", x)
	}
}

// takes asks for an event that passes as it is, in the order in which its fields stand.
func takes(t *testing.T, v int, r *keyring.Ring, n node, id string) {
	t.Helper()
	judges(t, v, r, n, api.Verdict{ID: id}, n)
	if _, got := verdict.Judge(v, r, n); !tree.Exact(got, n) {
		t.Errorf("Judge(%d): %s, not %s", v, shown(got), shown(n))
	}
}

func refuses(t *testing.T, v int, r *keyring.Ring, n node, id string, want api.Errno) {
	t.Helper()
	judges(t, v, r, n, api.Verdict{ID: id, Err: want}, node{})
}

func TestP41_1WhatPassesAsItIs(t *testing.T) {
	r := ringOf(t)
	for v := 1; v <= 11; v++ {
		m := whole(t, v)
		id := idOf(t, v, m)
		takes(t, v, r, nodeOf(t, m), id)
		// What is neither hashed nor signed may become anything else.
		for _, more := range []fields{without(m, "unsigned"), with(m, "unsigned", fields{"x": list{nil}}), with(m, "signatures", with(m["signatures"].(fields), "c.d", fields{"ed25519:9": base64Of(make([]byte, 64))}))} {
			takes(t, v, r, nodeOf(t, more), id)
		}
		// The order of the fields is none of the event's.
		n := nodeOf(t, m)
		slices.Reverse(n.K)
		slices.Reverse(n.L)
		takes(t, v, r, n, id)

		m = signed(t, v, hashed(t, with(without(bare(v), "state_key", "origin", "age", "unsigned"), "type", "", "content", fields{}, "depth", 0)))
		takes(t, v, r, nodeOf(t, m), idOf(t, v, m))
	}
}

func TestP41_1WhatIsRedacted(t *testing.T) {
	r := ringOf(t)
	for v := 1; v <= 11; v++ {
		m := whole(t, v)
		id := idOf(t, v, m)
		for _, other := range []fields{
			with(m, "age", 2), without(m, "age"), with(m, "body", nil), with(m, "content", with(m["content"].(fields), "displayname", "")), with(m, "content", without(m["content"].(fields), "displayname")),
			with(m, "unsigned", fields{}, "x", fields{"unsigned": 1}),
		} {
			judges(t, v, r, nodeOf(t, other), api.Verdict{ID: id, Redacted: true}, nodeOf(t, kept(v, other)))
		}
		for _, kind := range names("m.room.create", "m.room.message", "x") {
			made := hashed(t, with(bare(v), "type", kind, "content", fields{"creator": "@c:d", "body": "b"}))
			other := signed(t, v, with(made, "age", 2))
			judges(t, v, r, nodeOf(t, other), api.Verdict{ID: idOf(t, v, other), Redacted: true}, nodeOf(t, kept(v, other)))
		}
		// Of a kept field that is another one the hash tells, if the signature lets it pass.
		other := signed(t, v, with(m, "depth", 9))
		judges(t, v, r, nodeOf(t, other), api.Verdict{ID: idOf(t, v, other), Redacted: true}, nodeOf(t, kept(v, other)))
	}
}

// A hash that stands for other bytes, or for the same ones in other words, is another one.
func TestP41_1OtherHashes(t *testing.T) {
	r := ringOf(t)
	for v := 1; v <= 11; v++ {
		m := hashed(t, bare(v))
		hash := m["hashes"].(fields)["sha256"].(string)
		for _, s := range names(base64Of(make([]byte, 32)), base64Of(bytes.Repeat([]byte{255}, 32)), hash[1:]+"A") {
			other := signed(t, v, with(m, "hashes", fields{"sha256": s}))
			judges(t, v, r, nodeOf(t, other), api.Verdict{ID: idOf(t, v, other), Redacted: true}, nodeOf(t, kept(v, other)))
		}
		other := signed(t, v, with(m, "hashes", fields{"sha256": hash, "md5": 1}))
		takes(t, v, r, nodeOf(t, other), idOf(t, v, other))
	}
}

// faults are events that may not be, by what is wrong with them.
func faults(t *testing.T, v int) map[api.Errno][]node {
	t.Helper()
	m := whole(t, v)
	n := nodeOf(t, m)
	hash, deep := base64Of(make([]byte, 32)), tree.Null()
	for range 100000 {
		deep = tree.List(deep)
	}
	l := map[api.Errno][]node{
		api.ErrKind:  {{}, {Kind: 7}, {Kind: api.Map, N: 1}, tree.Put(n, "x", node{})},
		api.ErrArg:   {mapOf(names("a")), mapOf(append(names("x"), n.K...), n.L...)},
		api.ErrTwice: {mapOf(append(slices.Clone(n.K), "type"), append(slices.Clone(n.L), tree.Text("x"))...)},
		api.ErrText:  {tree.Text("\xff"), tree.Put(n, "x", tree.Text("\xff"))},
		api.ErrDeep:  {deep, tree.Put(n, "unsigned", tree.Map(tree.Text("x"), deep))},
		api.ErrType: {
			tree.Null(), tree.Bool(true), tree.Int(1), tree.Text(""), tree.List(), tree.List(n), tree.Put(n, "content", tree.Null()), tree.Put(n, "sender", tree.Int(1)), tree.Put(n, "hashes", tree.List()), tree.Put(n, "unsigned", tree.Int(1)),
			tree.Put(n, "signatures", tree.Map(tree.Text("a.b"), tree.Null())), tree.Put(n, "prev_events", tree.List(tree.Int(1))), tree.Put(n, "hashes", tree.Map(tree.Text("sha256"), tree.Int(1))),
		},
		api.ErrField: {tree.Map(), tree.Put(n, "hashes", tree.Map())},
		api.ErrRange: {tree.Int(1 << 53), tree.Put(n, "depth", tree.Int(-1)), tree.Put(n, "x", node{Kind: api.Bool, N: 2})},
		api.ErrLong:  {tree.Put(n, "type", tree.Text(strings.Repeat("t", 256))), tree.Put(n, "sender", tree.Text("@"+strings.Repeat("s", 251)+":a.b"))},
		api.ErrID:    {tree.Put(n, "room_id", tree.Text("r")), tree.Put(n, "sender", tree.Text("!s:a.b")), tree.Put(n, "redacts", tree.Text("$"))},
		api.ErrName:  {tree.Put(n, "origin", tree.Text("a..b")), tree.Put(n, "sender", tree.Text("@s:a..b"))},
		api.ErrMany:  {tree.Put(n, "auth_events", tree.List(slices.Repeat([]node{tree.Null()}, 11)...))},
		api.ErrHash:  {tree.Put(n, "hashes", tree.Map(tree.Text("sha256"), tree.Text(""))), tree.Put(n, "hashes", tree.Map(tree.Text("sha256"), tree.Text(hash+"=")))},
		api.ErrSign:  {nodeOf(t, with(m, "signatures", with(m["signatures"].(fields), "c.d", fields{"ed25519:1": "x"})))},
		api.ErrBig:   {nodeOf(t, hashed(t, with(m, "x", strings.Repeat("x", api.MaxEvent))))},
	}
	for _, key := range names("type", "room_id", "sender", "content", "depth", "origin_server_ts", "prev_events", "auth_events", "hashes", "signatures") {
		l[api.ErrField] = append(l[api.ErrField], tree.Without(n, key))
	}
	if isOwn(v) {
		l[api.ErrField] = append(l[api.ErrField], tree.Without(n, "event_id"))
		l[api.ErrID] = append(l[api.ErrID], tree.Put(n, "event_id", tree.Text("e")))
	} else {
		l[api.ErrMore] = []node{tree.Put(n, "event_id", tree.Text("$e:a.b"))}
	}
	return l
}

// What may not be has no ID, whatever else is wrong.
func TestP41_1WhatMayNotBe(t *testing.T) {
	r := ringOf(t)
	for v := 1; v <= 11; v++ {
		for want, l := range faults(t, v) {
			for _, n := range l {
				for _, ring := range []*keyring.Ring{r, nil, keyring.New()} {
					refuses(t, v, ring, n, "", want)
				}
			}
		}
	}
	for _, v := range noVersions {
		for _, ring := range []*keyring.Ring{r, nil} {
			for _, n := range []node{nodeOf(t, whole(t, 1)), nodeOf(t, whole(t, 11)), tree.Map(), tree.Null(), {}} {
				refuses(t, v, ring, n, "", api.ErrVersion)
			}
		}
	}
}

// What isn't signed has its ID beside the error, whether its hash is right or not.
func TestP41_1WhatIsNotSigned(t *testing.T) {
	r := ringOf(t)
	low := base64Of(append(ed25519.Sign(keyOf(0), nil)[:32], bytes.Repeat([]byte{255}, 32)...)) // no number below L
	for v := 1; v <= 11; v++ {
		m := whole(t, v)
		for _, m := range []fields{m, with(m, "age", 2)} {
			n, id := nodeOf(t, m), idOf(t, v, m)
			refuses(t, v, nil, n, id, api.ErrArg)
			refuses(t, v, keyring.New(), n, id, api.ErrNone)
			for _, none := range []fields{
				with(m, "signatures", fields{}), with(m, "signatures", fields{"a.b": fields{}}), signedBy(t, v, m, "a.b", "ed25519:3", 0), signedBy(t, v, m, "c.d", "ed25519:1", 2), signedBy(t, v, m, "a.b:80", "ed25519:1", 0),
			} {
				refuses(t, v, r, nodeOf(t, none), id, api.ErrNone)
			}
			refuses(t, v, r, nodeOf(t, signedBy(t, v, m, "a.b", "ed25519:1", 1)), id, api.ErrSign)
			refuses(t, v, r, nodeOf(t, signedBy(t, v, m, "a.b", "ed25519:2", 0)), id, api.ErrSign)
			refuses(t, v, r, nodeOf(t, with(m, "signatures", fields{"a.b": fields{"ed25519:2": low}})), id, api.ErrScalar)
		}
		// What is kept is signed: with another one of it the event is another one.
		for _, other := range []fields{with(m, "depth", 9), with(m, "hashes", hashed(t, with(m, "x", 1))["hashes"]), hashed(t, with(m, "body", 1)), with(m, "sender", "@t:a.b"), with(m, "content", fields{})} {
			refuses(t, v, r, nodeOf(t, other), idOf(t, v, other), api.ErrSign)
		}
		other := with(m, "sender", "@s:c.d")
		refuses(t, v, r, nodeOf(t, other), idOf(t, v, other), api.ErrNone)
		takes(t, v, r, nodeOf(t, m), idOf(t, v, m))
	}
}

// The ring is asked each time.
func TestP41_1WhatTheRingHas(t *testing.T) {
	r := keyring.New()
	m := signedBy(t, 6, hashed(t, bare(6)), "a.b", "ed25519:9", 5)
	n, id := nodeOf(t, m), idOf(t, 6, m)
	refuses(t, 6, r, n, id, api.ErrNone)
	r.Put("a.b", "ed25519:1", publicOf(0))
	refuses(t, 6, r, n, id, api.ErrNone)
	r.Put("a.b", "ed25519:9", publicOf(5))
	takes(t, 6, r, n, id)
	if r.Len() != 2 {
		t.Error(r.Len()) // nor is anything put there
	}
}

// Versions keep unlike things, and so sign and name unlike ones.
func TestP41_1VersionByVersion(t *testing.T) {
	r := ringOf(t)
	for v := 3; v <= 11; v++ {
		m := whole(t, v)
		for other := 3; other <= 11; other++ {
			id := idOf(t, other, m)
			if signing(t, v, m) == signing(t, other, m) {
				takes(t, other, r, nodeOf(t, m), id)
			} else {
				refuses(t, other, r, nodeOf(t, m), id, api.ErrSign)
			}
		}
		for other := 1; other <= 2; other++ {
			refuses(t, other, r, nodeOf(t, m), "", api.ErrField)
		}
	}
	for other := 3; other <= 11; other++ {
		refuses(t, other, r, nodeOf(t, whole(t, 1)), "", api.ErrMore)
	}
}

func TestP41_1Passes(t *testing.T) {
	for _, x := range []api.Verdict{{}, {ID: "$e:a.b"}, {Redacted: true}, {ID: "x", Redacted: true}} {
		if !verdict.Passes(x) {
			t.Errorf("%+v", x)
		}
		for errno := api.ErrArg; errno <= api.ErrMore; errno++ {
			if x.Err = errno; verdict.Passes(x) {
				t.Errorf("%+v", x)
			}
		}
		for _, errno := range []api.Errno{-1, 27, 256, math.MinInt, math.MaxInt} {
			if x.Err = errno; verdict.Passes(x) {
				t.Errorf("%+v", x)
			}
		}
	}
}

// some are events of all sorts: such as pass, as they are or redacted, and such as don't.
func some(t *testing.T, v int) []node {
	t.Helper()
	m := whole(t, v)
	other := signed(t, v, hashed(t, with(bare(v), "type", "x", "depth", 1)))
	l := []node{
		nodeOf(t, m), nodeOf(t, other), nodeOf(t, with(m, "age", 2)), nodeOf(t, with(other, "age", 2)), nodeOf(t, with(m, "depth", 9)), nodeOf(t, with(m, "signatures", fields{})),
		tree.Null(), tree.Map(), {}, tree.Put(nodeOf(t, m), "x", tree.Text("\xff")),
	}
	if isOwn(v) {
		l = append(l, nodeOf(t, signed(t, v, hashed(t, with(bare(v), "event_id", "$f:a.b")))))
	}
	return l
}

func TestP41_1AllInOrder(t *testing.T) {
	r := ringOf(t)
	for v := 1; v <= 11; v++ {
		m := whole(t, v)
		id := idOf(t, v, m)
		got := verdict.All(v, r, tree.Map(), nodeOf(t, m), tree.Null(), nodeOf(t, with(m, "signatures", fields{})), nodeOf(t, with(m, "age", 2)), nodeOf(t, m))
		want := []api.Verdict{{Err: api.ErrField}, {ID: id}, {Err: api.ErrType}, {ID: id, Err: api.ErrNone}, {ID: id, Redacted: true}, {ID: id}}
		if !slices.Equal(got, want) {
			t.Errorf("All(%d): %+v, not %+v", v, got, want)
		}
		if got := verdict.All(v, nil, nodeOf(t, m), tree.Null()); !slices.Equal(got, []api.Verdict{{ID: id, Err: api.ErrArg}, {Err: api.ErrType}}) {
			t.Errorf("All(%d), of a nil ring: %+v", v, got)
		}
	}
	for _, v := range append(noVersions, 1, 3, 11) {
		for _, ring := range []*keyring.Ring{r, nil} {
			if got := verdict.All(v, ring); len(got) != 0 {
				t.Errorf("All(%d) of none: %+v", v, got)
			}
		}
	}
	for _, v := range noVersions {
		if got := verdict.All(v, r, tree.Map(), node{}); !slices.Equal(got, []api.Verdict{{Err: api.ErrVersion}, {Err: api.ErrVersion}}) {
			t.Errorf("All(%d): %+v", v, got)
		}
	}
}

func TestP41_2EachByItself(t *testing.T) {
	rnd, r := rand.New(rand.NewSource(412)), ringOf(t)
	for range 12 {
		v := 1 + rnd.Intn(11)
		from := some(t, v)
		var l []node
		var want []api.Verdict
		for range 1 + rnd.Intn(12) { // the same one may stand there more than once
			n := from[rnd.Intn(len(from))]
			x, _ := verdict.Judge(v, r, n)
			l, want = append(l, n), append(want, x)
		}
		if got := verdict.All(v, r, l...); !slices.Equal(got, want) {
			t.Errorf("All(%d): %+v, not %+v", v, got, want)
		}
	}
}

func TestP41_3JudgedAgain(t *testing.T) {
	r := ringOf(t)
	for v := 1; v <= 11; v++ {
		passed := 0
		for _, n := range some(t, v) {
			x, taken := verdict.Judge(v, r, n)
			if !verdict.Passes(x) {
				continue
			}
			passed++
			y, again := verdict.Judge(v, r, taken)
			if y != x || !tree.Exact(again, taken) {
				t.Errorf("Judge(%d): %+v, %s, and again %+v, %s", v, x, shown(taken), y, shown(again))
			}
		}
		if passed < 4 {
			t.Error(v, passed)
		}
		// What was redacted may have the hash that it then has: it stays as it is, and isn't redacted any more.
		m := whole(t, v)
		m = signed(t, v, with(m, "hashes", hashed(t, kept(v, m))["hashes"]))
		x, taken := verdict.Judge(v, r, nodeOf(t, m))
		y, again := verdict.Judge(v, r, taken)
		if x != (api.Verdict{ID: idOf(t, v, m), Redacted: true}) || y != (api.Verdict{ID: x.ID}) || !tree.Exact(again, taken) {
			t.Errorf("Judge(%d): %+v, and again %+v", v, x, y)
		}
	}
}

// anyEvent is one of whose fields some are others than those that were hashed, or signed.
func anyEvent(t *testing.T, rnd *rand.Rand, v int) fields {
	t.Helper()
	changes := []fields{
		{"age": 3}, {"type": "m.room.create"}, {"type": "x"}, {"content": fields{"creator": 1, "membership": nil}}, {"unsigned": fields{}}, {"origin": "c.d:1"}, {"redacts": "x"}, {"state_key": ""}, {"depth": 0}, {"prev_state": list{}}, {"membership": 1}, {"sender": "@t:a.b"},
	}
	change := func(m fields) fields {
		for range rnd.Intn(3) {
			m = with(m, pairs(changes[rnd.Intn(len(changes))])...)
		}
		return m
	}
	m := hashed(t, change(bare(v)))
	if rnd.Intn(2) == 0 {
		m = change(m)
	}
	m = signed(t, v, m)
	if rnd.Intn(2) == 0 {
		m = change(m)
	}
	return m
}

// Each step by itself, of the library's means.
func TestP41_1AnyEvents(t *testing.T) {
	rnd, r := rand.New(rand.NewSource(411)), ringOf(t)
	told := map[api.Verdict]int{}
	for range 250 {
		v := 1 + rnd.Intn(11)
		m := anyEvent(t, rnd, v)
		n, id := nodeOf(t, m), idOf(t, v, m)
		signature, _ := base64.RawStdEncoding.DecodeString(m["signatures"].(fields)["a.b"].(fields)["ed25519:1"].(string))
		want, taken := api.Verdict{ID: id}, n
		switch {
		case m["redacts"] != nil:
			want, taken = api.Verdict{Err: api.ErrID}, node{}
		case !ed25519.Verify(keyOf(0).Public().(ed25519.PublicKey), []byte(signing(t, v, m)), signature):
			want, taken = api.Verdict{ID: id, Err: api.ErrSign}, node{}
		case form(t, hashed(t, m)["hashes"]) != form(t, m["hashes"]):
			want, taken = api.Verdict{ID: id, Redacted: true}, nodeOf(t, kept(v, m))
		}
		judges(t, v, r, n, want, taken)
		told[api.Verdict{Redacted: want.Redacted, Err: want.Err}]++
		if !verdict.Passes(want) {
			continue
		}
		x, again := verdict.Judge(v, r, taken)
		if x.ID != id || !verdict.Passes(x) || !tree.Exact(tree.Sorted(again), tree.Sorted(taken)) {
			t.Errorf("Judge(%d, %s), again: %+v, %s", v, shown(taken), x, shown(again))
		}
	}
	if len(told) != 4 {
		t.Error(told)
	}
	for x, many := range told {
		if many < 20 {
			t.Errorf("%+v: %d", x, many)
		}
	}
}

func TestP41WhatIsHandedInIsNotChanged(t *testing.T) {
	r := ringOf(t)
	for v := 1; v <= 11; v++ {
		for _, n := range some(t, v)[:6] {
			n.K, n.L = slices.Grow(n.K, 8), slices.Grow(n.L, 8)
			given, keys := tree.Sorted(n), slices.Clone(n.K)
			verdict.Judge(v, r, n)
			l := append(make([]node, 0, 4), n, tree.Null())
			verdict.All(v, r, l...)
			if !tree.Exact(tree.Sorted(n), given) || !slices.Equal(n.K, keys) || !tree.Exact(l[0], n) || !tree.Exact(tree.List(l[1:4]...), tree.List(tree.Null(), node{}, node{})) {
				t.Errorf("%s", shown(n))
			}
			for i := len(n.K); i < cap(n.K) && i < cap(n.L); i++ {
				if n.K[:cap(n.K)][i] != "" || !tree.Exact(n.L[:cap(n.L)][i], node{}) {
					t.Error("the spare room is written into:", i)
				}
			}
		}
	}
	if r.Len() != 4 {
		t.Error(r.Len())
	}
}

func TestP7EveryCallEnds(t *testing.T) {
	r := ringOf(t)
	for i := range 64 {
		for _, v := range []int{1 << i, 1<<i - 1, -1 << i} {
			for kind := -1; kind < 8; kind++ {
				inner := node{Kind: kind, N: 1, S: "s", K: names("sha256", "a.b"), L: []node{tree.Text("x")}}
				n := node{Kind: kind, S: "$a:b", K: names("sender", "signatures", "hashes", "content"), L: []node{tree.Text("@u:a.b"), inner, inner, inner}}
				for _, ring := range []*keyring.Ring{r, nil} {
					verdict.Judge(v, ring, n)
					verdict.All(v, ring, n, mapOf(n.K, n.L...), mapOf(n.K, n.L[1:]...), node{})
				}
			}
		}
	}
	verdict.All(3, r, nil...)
}
