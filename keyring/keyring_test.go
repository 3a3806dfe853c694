package keyring_test

import (
	"crypto/ed25519"
	"encoding/base64"
	"math"
	"math/big"
	"math/rand"
	"slices"
	"strconv"
	"strings"
	"testing"

	"sealring/api"
	"sealring/envelope"
	"sealring/keyring"
	"sealring/parse"
	"sealring/redact"
	"sealring/tree"
)

type (
	node = api.Node
	sig  = api.Sig
)

var noVersions = []int{0, -1, 12, 13, 100, math.MinInt, math.MaxInt}

func mapOf(keys []string, values ...node) node { return node{Kind: api.Map, K: keys, L: values} }

func names(l ...string) []string { return l }

func of(server, key, value string) sig { return sig{Server: server, Key: key, Value: value} }

func read(t *testing.T, s string) node {
	t.Helper()
	n, _, e := parse.Parse(s)
	if e != api.OK {
		t.Fatalf("%s: %d", s, e)
	}
	return n
}

// seedOf is one of many seeds, and publicOf a seed's public key, by the library's means.
func seedOf(i int) string { return strings.Repeat(string(rune('a'+i)), 32) }

func publicOf(seed string) string {
	return string(ed25519.NewKeyFromSeed([]byte(seed)).Public().(ed25519.PublicKey))
}

// bytesOf are those by which a seed signs a text, by the library's means.
func bytesOf(seed, text string) string {
	return string(ed25519.Sign(ed25519.NewKeyFromSeed([]byte(seed)), []byte(text)))
}

// written is how a signature's bytes stand in an event.
func written(b string) string { return base64.RawStdEncoding.EncodeToString([]byte(b)) }

// noughts are so many bytes.
func noughts(many int) string { return strings.Repeat("\x00", many) }

// ringOf has these keys.
func ringOf(t *testing.T, l ...sig) *keyring.Ring {
	t.Helper()
	r := keyring.New()
	for _, s := range l {
		puts(t, r, s.Server, s.Key, s.Value, api.OK)
	}
	return r
}

func puts(t *testing.T, r *keyring.Ring, server, key, public string, want api.Errno) {
	t.Helper()
	if e := r.Put(server, key, public); e != want {
		t.Errorf("Put(%q, %q, %x): %d, not %d", server, key, public, e, want)
	}
}

func gets(t *testing.T, r *keyring.Ring, server, key, want string, ok bool) {
	t.Helper()
	if public, there := r.Get(server, key); public != want || there != ok {
		t.Errorf("Get(%q, %q): %x, %v, not %x, %v", server, key, public, there, want, ok)
	}
}

// has asks for all that a ring has, in order, twice over, and left at each place.
func has(t *testing.T, r *keyring.Ring, want ...sig) {
	t.Helper()
	if r.Len() != len(want) {
		t.Errorf("Len: %d, not %d", r.Len(), len(want))
	}
	all := r.All()
	for range 2 {
		if got := slices.Collect(all); !slices.Equal(got, want) {
			t.Errorf("All: %q, not %q", got, want)
		}
	}
	for leave := 1; leave <= len(want); leave++ {
		seen := 0
		for s := range all {
			if s != want[seen] {
				t.Errorf("%d: %q", seen, s)
			}
			if seen++; seen == leave {
				break
			}
		}
		if seen != leave {
			t.Errorf("left at %d: %d", leave, seen)
		}
	}
	for _, s := range want {
		gets(t, r, s.Server, s.Key, s.Value, true)
	}
}

func TestP40_1New(t *testing.T) {
	r, other := keyring.New(), keyring.New()
	has(t, r)
	gets(t, r, "", "", "", false)
	gets(t, r, "a.b", "ed25519:1", "", false)
	puts(t, r, "a.b", "ed25519:1", publicOf(seedOf(0)), api.OK)
	has(t, r, of("a.b", "ed25519:1", publicOf(seedOf(0))))
	has(t, other) // a ring by itself
	has(t, keyring.New())
}

// rising are keys in the order in which they are told: A is below a, a text ahead of what is longer, digits go by their signs.
func rising() []sig {
	var l []sig
	for _, server := range names("1.2.3.4", "1.2.3.4:1", "A.b", "B", "[::1]", "[::1]:8448", "a", "a-b", "a.b", "a.b:10", "a.b:9", "aa", strings.Repeat("b.", 114)+"bb") {
		for _, key := range names("ed25519:0", "ed25519:1", "ed25519:10", "ed25519:2", "ed25519:A", "ed25519:Z", "ed25519:_", "ed25519:a", "ed25519:aa", "ed25519:"+strings.Repeat("k", 247)) {
			l = append(l, of(server, key, publicOf(seedOf(len(l)%20))))
		}
	}
	return l
}

func TestP40_1AllInOrder(t *testing.T) {
	l := rising()
	r := rand.New(rand.NewSource(40))
	for range 10 {
		ring := keyring.New()
		for many, i := range r.Perm(len(l)) {
			gets(t, ring, l[i].Server, l[i].Key, "", false)
			puts(t, ring, l[i].Server, l[i].Key, l[i].Value, api.OK)
			if ring.Len() != many+1 {
				t.Error(ring.Len(), many)
			}
		}
		has(t, ring, l...)
		for _, s := range l {
			puts(t, ring, s.Server, s.Key, s.Value, api.ErrTwice)
		}
		has(t, ring, l...)
	}
}

func TestP40_1AllAsTheyAreWhenTheRangeBegins(t *testing.T) {
	a, b, c, d := of("a", "ed25519:1", publicOf(seedOf(0))), of("b", "ed25519:1", publicOf(seedOf(1))), of("b", "ed25519:2", publicOf(seedOf(2))), of("c", "ed25519:0", publicOf(seedOf(3)))
	r := ringOf(t, b)
	all := r.All()
	puts(t, r, a.Server, a.Key, a.Value, api.OK)
	var got []sig
	for s := range all {
		if len(got) == 0 {
			puts(t, r, c.Server, c.Key, c.Value, api.OK)
			puts(t, r, d.Server, d.Key, d.Value, api.OK)
		}
		got = append(got, s)
	}
	if !slices.Equal(got, []sig{a, b}) {
		t.Errorf("%q", got)
	}
	has(t, r, a, b, c, d)
}

// Things that are wrong, by the error that is told.
var (
	badServers = map[string]api.Errno{"": api.ErrName, "a:": api.ErrName, "a:0": api.ErrName, "-a": api.ErrName, "a b": api.ErrName, "@a:b": api.ErrName, "1.2.3": api.ErrName, "\xff": api.ErrName, strings.Repeat("a", 231): api.ErrLong, strings.Repeat("\xff", 231): api.ErrLong}
	badKeys    = map[string]api.Errno{"": api.ErrID, "1": api.ErrID, "ed25519": api.ErrID, "ed25519:": api.ErrID, "Ed25519:1": api.ErrID, "ed25519:a-b": api.ErrID, "ed25519:1:2": api.ErrID, "ed25519:\u00e9": api.ErrID, "ed25519:" + strings.Repeat("k", 248): api.ErrLong}
	badPublics = map[string]api.Errno{
		"": api.ErrArg, "p": api.ErrArg, noughts(31): api.ErrArg, noughts(33): api.ErrArg, noughts(64): api.ErrArg, "0123456789abcdef0123456789abcdef0123456789abcdef0123456789abcdef": api.ErrArg,
		strings.Repeat("\xff", 32): api.ErrRange, "\xed" + strings.Repeat("\xff", 30) + "\x7f": api.ErrRange,
		"\x02" + noughts(31): api.ErrPoint, "\x01" + noughts(30) + "\x80": api.ErrPoint,
	}
)

func TestP40_1WhatIsPut(t *testing.T) {
	public := publicOf(seedOf(0))
	r := ringOf(t, of("a.b", "ed25519:1", public))
	puts(t, r, "a.b", "ed25519:1", public, api.ErrTwice)
	puts(t, r, "a.b", "ed25519:1", publicOf(seedOf(1)), api.ErrTwice)
	has(t, r, of("a.b", "ed25519:1", public)) // the one ahead stays
	puts(t, r, "a.b", "ed25519:2", public, api.OK)
	puts(t, r, "A.b", "ed25519:1", public, api.OK)
	puts(t, r, "a.b:80", "ed25519:1", publicOf(seedOf(1)), api.OK)
	has(t, r, of("A.b", "ed25519:1", public), of("a.b", "ed25519:1", public), of("a.b", "ed25519:2", public), of("a.b:80", "ed25519:1", publicOf(seedOf(1))))
	for _, s := range names("", "a", "a.b ", "a.b:", "a.b:81", "b") {
		gets(t, r, s, "ed25519:1", "", false)
	}
	for _, k := range names("", "1", "ed25519:", "ed25519:01", "ed25519:3", "Ed25519:1") {
		gets(t, r, "a.b", k, "", false)
	}
	gets(t, r, "A.b", "ed25519:2", "", false)
	gets(t, r, "ed25519:1", "a.b", "", false)

	// Points of low order are points, too.
	for i, public := range names("\x01"+noughts(31), noughts(32), noughts(31)+"\x80", "\xec"+strings.Repeat("\xff", 30)+"\x7f") {
		key := "ed25519:low" + strconv.Itoa(i)
		puts(t, r, "a.b", key, public, api.OK)
		gets(t, r, "a.b", key, public, true)
	}
}

// Of whatever is wrong the first is told: the server, the key, the public key, that it is there.
func TestP40_1WhatIsToldFirst(t *testing.T) {
	own := of("a.b", "ed25519:1", publicOf(seedOf(0)))
	r := ringOf(t, own)
	for server, want := range badServers {
		puts(t, r, server, own.Key, own.Value, want)
		for key := range badKeys {
			puts(t, r, server, key, own.Value, want)
			for public := range badPublics {
				puts(t, r, server, key, public, want)
				puts(t, r, server, own.Key, public, want)
			}
		}
		gets(t, r, server, own.Key, "", false)
	}
	for key, want := range badKeys {
		puts(t, r, own.Server, key, own.Value, want)
		for public := range badPublics {
			puts(t, r, own.Server, key, public, want)
			puts(t, r, "new", key, public, want)
		}
		gets(t, r, own.Server, key, "", false)
	}
	for public, want := range badPublics {
		puts(t, r, own.Server, own.Key, public, want)
		puts(t, r, own.Server, "ed25519:2", public, want)
		puts(t, r, "new", own.Key, public, want)
	}
	gets(t, r, own.Server, "ed25519:2", "", false)
	gets(t, r, "new", own.Key, "", false)
	has(t, r, own) // what was refused has left nothing
	puts(t, r, own.Server, "ed25519:2", own.Value, api.OK)
	puts(t, r, "new", own.Key, own.Value, api.OK)
}

func verifies(t *testing.T, r *keyring.Ring, v int, n node, want api.Errno) {
	t.Helper()
	if e := r.Verify(v, n); e != want {
		t.Errorf("Verify(%d, %+v): %d, not %d", v, n, e, want)
	}
}

// by is an event of that sender, with these signatures, as they stand.
func by(sender string, l ...sig) node {
	servers := tree.Map()
	for _, s := range l {
		keys, ok := tree.Get(servers, s.Server)
		if !ok {
			keys = tree.Map()
		}
		servers = tree.Put(servers, s.Server, tree.Put(keys, s.Key, tree.Text(s.Value)))
	}
	return tree.Map(tree.Text("sender"), tree.Text(sender), tree.Text("signatures"), servers)
}

// right is the signature by a seed of what by tells.
func right(server, key, seed, sender string) sig {
	return of(server, key, written(bytesOf(seed, `{"sender":"`+sender+`"}`)))
}

func TestP40_2Senders(t *testing.T) {
	r := ringOf(t, of("a.b", "ed25519:1", publicOf(seedOf(0))))
	own := right("a.b", "ed25519:1", seedOf(0), "@u:a.b")
	servers, _ := tree.Get(by("@u:a.b", own), "signatures")
	id := tree.Text("@u:a.b")
	noSender := []node{
		tree.Map(), {}, {Kind: 7}, tree.Null(), tree.Bool(true), tree.Int(1), id, tree.Text("sender"), tree.List(), tree.List(by("@u:a.b", own)),
		tree.Map(tree.Text("signatures"), servers), tree.Map(tree.Text("Sender"), id, tree.Text("signatures"), servers), tree.Map(tree.Text("content"), by("@u:a.b", own)),
		mapOf(names("sender")), mapOf(names("sender", "sender"), tree.Null(), id), mapOf(nil, id),
		{Kind: api.List, K: names("sender"), L: []node{id}},
	}
	for _, sender := range []node{{}, tree.Null(), tree.Bool(true), tree.Int(0), tree.List(id), tree.Map(), {Kind: 7, S: "@u:a.b"}} {
		noSender = append(noSender, tree.Put(by("", own), "sender", sender))
	}
	for _, v := range append(noVersions, 1, 2, 3, 4, 5, 6, 7, 8, 9, 10, 11) {
		for _, n := range noSender {
			verifies(t, r, v, n, api.ErrField)
		}
		for sender, want := range map[string]api.Errno{
			"": api.ErrID, "u": api.ErrID, "@": api.ErrID, "@u": api.ErrID, "@:a.b": api.ErrID, "u:a.b": api.ErrID, "!u:a.b": api.ErrID, "$u:a.b": api.ErrID, "#u:a.b": api.ErrID, "a.b": api.ErrID, "@U:a.b": api.ErrID, "@\xff:a.b": api.ErrID,
			"@u:": api.ErrName, "@u:a.b:0": api.ErrName, "@u::a.b": api.ErrName, "@u:a b": api.ErrName, "!u:": api.ErrName,
			"@" + strings.Repeat("u", 254) + ":a.b": api.ErrLong, "@" + strings.Repeat("\xff", 255): api.ErrLong, "@u:" + strings.Repeat("a", 231): api.ErrLong,
		} {
			verifies(t, r, v, by(sender, own), want)
			verifies(t, r, v, tree.Map(tree.Text("sender"), tree.Text(sender)), want)
		}
	}
}

// full has all that is kept of some event, and more.
const full = `{"type":"m.room.member","content":{"x":1,"membership":"join","join_authorised_via_users_server":"@j:a"},"unsigned":{"age":1},"signatures":{"c.d":{"ed25519:2":"s"}},"hashes":{"sha256":"h"},"event_id":"$e:f","room_id":"!r:o","sender":"@s:a.b","state_key":"","depth":1,"origin_server_ts":2,"prev_events":["p"],"auth_events":[],"origin":"o","age":4}`

// kept is the form of that without unsigned and signatures, as versions keep it.
func kept(v int) string {
	content, origin := `"membership":"join"`, `"origin":"o",`
	if v >= 9 {
		content = `"join_authorised_via_users_server":"@j:a",` + content
	}
	if v >= 11 {
		origin = ""
	}
	return `{"auth_events":[],"content":{` + content + `},"depth":1,"event_id":"$e:f","hashes":{"sha256":"h"},` + origin + `"origin_server_ts":2,"prev_events":["p"],"room_id":"!r:o","sender":"@s:a.b","state_key":"","type":"m.room.member"}`
}

func TestP40_2VersionByVersion(t *testing.T) {
	r := ringOf(t, of("a.b", "ed25519:1", publicOf(seedOf(0))), of("c.d", "ed25519:2", publicOf(seedOf(1))))
	for v := 1; v <= 11; v++ {
		n := read(t, full)
		verifies(t, r, v, n, api.ErrNone)
		n = tree.Put(n, "signatures", read(t, `{"c.d":{"ed25519:2":"s"},"a.b":{"ed25519:1":"`+written(bytesOf(seedOf(0), kept(v)))+`"}}`))
		verifies(t, r, v, n, api.OK)
		verifies(t, r, v, tree.Put(n, "unsigned", tree.Null()), api.OK)
		verifies(t, r, v, tree.Put(n, "body", tree.Null()), api.OK)
		verifies(t, r, v, tree.Put(n, "depth", tree.Int(2)), api.ErrSign)
		verifies(t, r, v, tree.Put(n, "sender", tree.Text("@t:a.b")), api.ErrSign)
		verifies(t, r, v, tree.Put(n, "sender", tree.Text("@s:a")), api.ErrNone)
		once, e := redact.Redact(v, n)
		if e != api.OK {
			t.Fatal(e)
		}
		verifies(t, r, v, once, api.OK)
		for other := 1; other <= 11; other++ {
			want := api.OK
			if kept(other) != kept(v) {
				want = api.ErrSign
			}
			verifies(t, r, other, n, want)
		}
	}
}

// Signatures count just of the sender's server, and by keys that it has here.
func TestP40_2NoSignatureThatCounts(t *testing.T) {
	const key, sender = "ed25519:1", "@u:a.b"
	own := right("a.b", key, seedOf(0), sender)
	r := ringOf(t, of("a.b", key, publicOf(seedOf(0))), of("a.b:80", key, publicOf(seedOf(0))), of("c.d", key, publicOf(seedOf(0))), of("c.d", "ed25519:3", publicOf(seedOf(0))))
	verifies(t, r, 3, by(sender, own), api.OK)
	var none []node
	for _, s := range names("A.b", "a", "a.b.", "a.b:80", "c.d", "", "u", "@u:a.b") {
		none = append(none, by(sender, of(s, key, own.Value)))
	}
	for _, k := range names("ed25519:2", "ed25519:3", "", "1", "ed25519:", "Ed25519:1", "ed25519:01") {
		none = append(none, by(sender, of("a.b", k, own.Value)), by(sender, of("a.b", k, "x"), of("c.d", key, own.Value)))
	}
	for _, s := range names("@u:a.b:81", "@u:b.a", "@u:a", "@a.b:x") {
		none = append(none, by(s, right("a.b", key, seedOf(0), s)))
	}
	id, value := tree.Text(sender), tree.Text(own.Value)
	none = append(none, by(sender), tree.Map(tree.Text("sender"), id), tree.Map(tree.Text("sender"), id, tree.Text("Signatures"), tree.Map(tree.Text("a.b"), tree.Map(tree.Text(key), value))))
	for _, v := range []node{tree.Null(), tree.Int(1), value, tree.List(value), tree.Map(tree.Text(key), value)} {
		none = append(none,
			tree.Map(tree.Text("sender"), id, tree.Text("signatures"), tree.Map(tree.Text("a.b"), tree.Map(tree.Text(key), tree.List(v)))),
			tree.Map(tree.Text("sender"), id, tree.Text("signatures"), tree.Map(tree.Text("a.b"), tree.List(v))),
			tree.Map(tree.Text("sender"), id, tree.Text("signatures"), tree.List(v)),
			tree.Map(tree.Text("sender"), id, tree.Text("signatures"), v))
	}
	// That is told ahead of whatever is wrong with the version and the event.
	for _, v := range append(noVersions, 1, 3, 11) {
		for _, n := range none {
			verifies(t, r, v, n, api.ErrNone)
			verifies(t, r, v, tree.Put(n, "x", node{}), api.ErrNone)
			verifies(t, r, v, tree.Put(n, "x", tree.Text("\xff")), api.ErrNone)
		}
		verifies(t, keyring.New(), v, by(sender, own), api.ErrNone)
	}
}

func TestP40_2ServersOfSenders(t *testing.T) {
	for _, server := range names("a", "A.b", "a.b:80", "1.2.3.4", "1.2.3.4:65535", "[::1]", "[::1]:8448") {
		sender := "@a/b=c:" + server
		r := ringOf(t, of(server, "ed25519:1", publicOf(seedOf(0))))
		verifies(t, r, 5, by(sender, right(server, "ed25519:1", seedOf(0), sender)), api.OK)
		verifies(t, r, 5, by(sender, right(server, "ed25519:1", seedOf(1), sender)), api.ErrSign)
		verifies(t, r, 5, by(sender, right("b", "ed25519:1", seedOf(0), sender)), api.ErrNone)
	}
}

// high are 32 bytes that are no number below the base's order: that one's.
func high() string {
	order, _ := new(big.Int).SetString("7237005577332262213973186563042994240857116359379907606001950938285454250989", 10)
	b := order.FillBytes(make([]byte, 32))
	slices.Reverse(b)
	return string(b)
}

// wrongs are values that are no right signature of any text, by what is wrong with them.
func wrongs() map[api.Errno][]string {
	r := bytesOf(seedOf(25), "x")[:32]
	return map[api.Errno][]string{
		api.ErrSign:   {"", "x", written(noughts(63)), written(noughts(65)), written(noughts(64)), written(bytesOf(seedOf(25), "x")), "\u00e9"},
		api.ErrScalar: {written(r + high()), written(r + strings.Repeat("\xff", 32))},
	}
}

// One that is right is enough, wherever it stands.
func TestP40_2OneIsEnough(t *testing.T) {
	const sender, many = "@u:a.b", 4
	var keys, good []sig
	for i := range many {
		keys = append(keys, of("a.b", "ed25519:"+strconv.Itoa(i), publicOf(seedOf(i))))
		good = append(good, right("a.b", keys[i].Key, seedOf(i), sender))
	}
	r := ringOf(t, keys...)
	for told, values := range wrongs() {
		for _, value := range values {
			for which := -1; which < many; which++ {
				l, want := slices.Clone(good), api.OK
				for i := range l {
					if i != which {
						l[i].Value = value
					}
				}
				if which < 0 {
					want = told
				}
				verifies(t, r, 7, by(sender, l...), want)
				slices.Reverse(l)
				verifies(t, r, 7, by(sender, l...), want)
			}
		}
	}
	verifies(t, r, 7, by(sender, good...), api.OK)
	// By another key of its own one is not right.
	verifies(t, r, 7, by(sender, of("a.b", keys[0].Key, good[1].Value), of("a.b", keys[1].Key, good[0].Value)), api.ErrSign)
}

// Where none is right, the last one is told by the order of the keys, not that in which they stand; what doesn't count isn't.
func TestP40_2TheLastOneIsTold(t *testing.T) {
	const sender = "@u:a.b"
	var keys []sig
	for i, k := range names("1", "10", "2", "A", "a") {
		keys = append(keys, of("a.b", "ed25519:"+k, publicOf(seedOf(i))))
	}
	r := ringOf(t, append(keys, of("b", "ed25519:z", publicOf(seedOf(9))))...)
	bad := wrongs()
	more := []sig{of("a.b", "ed25519:b", bad[api.ErrSign][0]), right("a.b", "ed25519:0", seedOf(0), sender), right("b", "ed25519:z", seedOf(9), sender), of("a.a", "ed25519:1", "x")}
	rnd := rand.New(rand.NewSource(402))
	for range 200 {
		var l []sig
		want := api.ErrNone
		for _, k := range keys {
			if rnd.Intn(3) == 0 {
				continue
			}
			want = api.ErrSign
			if rnd.Intn(2) == 0 {
				want = api.ErrScalar
			}
			values := bad[want]
			l = append(l, of(k.Server, k.Key, values[rnd.Intn(len(values))]))
		}
		l = append(l, more[:rnd.Intn(len(more)+1)]...)
		rnd.Shuffle(len(l), func(i, j int) { l[i], l[j] = l[j], l[i] })
		verifies(t, r, 1+rnd.Intn(11), by(sender, l...), want)
	}
}

// What is wrong with the version, or the event, is told if there is a signature that counts.
func TestP40_2WhatCheckTells(t *testing.T) {
	const sender = "@u:a.b"
	r := ringOf(t, of("a.b", "ed25519:1", publicOf(seedOf(0))))
	own := right("a.b", "ed25519:1", seedOf(0), sender)
	deep := tree.Null()
	for range 1000000 {
		deep = tree.List(deep)
	}
	for _, s := range []sig{own, of("a.b", "ed25519:1", "x")} {
		n := by(sender, s)
		for _, v := range noVersions {
			verifies(t, r, v, n, api.ErrVersion)
			verifies(t, r, v, tree.Put(n, "x", node{}), api.ErrVersion)
		}
		for v := 1; v <= 11; v++ {
			for want, l := range map[api.Errno][]node{
				api.ErrKind:  {{}, {Kind: 7}, {Kind: api.Null, N: 1}},
				api.ErrRange: {tree.Int(1 << 53), {Kind: api.Bool, N: 2}},
				api.ErrText:  {tree.Text("\xff")},
				api.ErrArg:   {mapOf(names("a"))},
				api.ErrTwice: {mapOf(names("a", "a"), tree.Null(), tree.Null())},
				api.ErrDeep:  {deep},
			} {
				for _, x := range l {
					verifies(t, r, v, tree.Put(n, "x", x), want)
				}
			}
			verifies(t, r, v, mapOf(names("sender", "signatures", "sender"), n.L[0], n.L[1], n.L[0]), api.ErrTwice)
			verifies(t, r, v, mapOf(names("sender", "signatures", "x"), n.L...), api.ErrArg)
			servers := n.L[1]
			verifies(t, r, v, tree.Put(n, "signatures", mapOf(names("a.b", "a.b"), servers.L[0], servers.L[0])), api.ErrTwice)
			verifies(t, r, v, tree.Put(n, "signatures", mapOf(names("a.b", "a.b"), tree.Null(), servers.L[0])), api.ErrTwice)
		}
	}
}

func TestP40_3NilRing(t *testing.T) {
	var r *keyring.Ring
	own := right("a.b", "ed25519:1", seedOf(0), "@u:a.b")
	puts(t, r, "a.b", "ed25519:1", publicOf(seedOf(0)), api.ErrArg)
	puts(t, r, "", "", "", api.ErrArg)
	puts(t, r, strings.Repeat("a", 300), "k", "p", api.ErrArg)
	gets(t, r, "a.b", "ed25519:1", "", false)
	gets(t, r, "", "", "", false)
	has(t, r)
	for _, v := range []int{0, 1, 3, 11, 12} {
		for _, n := range []node{by("@u:a.b", own), by("@u:a.b"), by("u", own), tree.Map(), {}, tree.List()} {
			verifies(t, r, v, n, api.ErrArg)
		}
	}
}

func TestP40_4WhatIsPutIsGotAndVerifies(t *testing.T) {
	rnd := rand.New(rand.NewSource(404))
	servers := names("a.b", "a.b:80", "c", "[::1]", "1.2.3.4")
	for range 30 {
		r, put := keyring.New(), map[sig]int{}
		for range 12 {
			server, key, i := servers[rnd.Intn(len(servers))], "ed25519:"+strconv.Itoa(rnd.Intn(4)), rnd.Intn(20)
			want := api.OK
			if _, ok := put[of(server, key, "")]; ok {
				want = api.ErrTwice
			} else {
				put[of(server, key, "")] = i
			}
			puts(t, r, server, key, publicOf(seedOf(i)), want)
		}
		if r.Len() != len(put) {
			t.Error(r.Len(), len(put))
		}
		v := 1 + rnd.Intn(11)
		for s, i := range put {
			gets(t, r, s.Server, s.Key, publicOf(seedOf(i)), true)
			n, e := envelope.Sign(v, tree.Put(read(t, full), "sender", tree.Text("@u:"+s.Server)), s.Server, s.Key, seedOf(i))
			if e != api.OK {
				t.Fatal(e)
			}
			verifies(t, r, v, n, api.OK)
			other, _ := envelope.Sign(v, n, s.Server, s.Key, seedOf(i+1))
			verifies(t, r, v, other, api.ErrSign)
		}
	}
}

func TestP40WhatIsHandedInIsNotChanged(t *testing.T) {
	r := ringOf(t, of("a.b", "ed25519:1", publicOf(seedOf(0))))
	n := read(t, strings.Replace(full, `{"c.d":`, `{"a.b":{"ed25519:1":"x"},"c.d":`, 1))
	n.K, n.L = slices.Grow(n.K, 8), slices.Grow(n.L, 8)
	given := tree.Sorted(n)
	for v := 1; v <= 11; v++ {
		verifies(t, r, v, n, api.ErrSign)
	}
	if !tree.Exact(tree.Sorted(n), given) || n.K[0] != "type" {
		t.Errorf("%+v", n)
	}
	for i := len(n.K); i < cap(n.K) && i < cap(n.L); i++ {
		if n.K[:cap(n.K)][i] != "" || !tree.Exact(n.L[:cap(n.L)][i], node{}) {
			t.Error("the spare room is written into:", i)
		}
	}
	has(t, r, of("a.b", "ed25519:1", publicOf(seedOf(0)))) // nor is the ring
}

func TestP7EveryCallEnds(t *testing.T) {
	r := ringOf(t, of("a.b", "ed25519:1", publicOf(seedOf(0))))
	own := tree.Text("x")
	for i := range 64 {
		for _, v := range []int{1 << i, 1<<i - 1, -1 << i} {
			for kind := -1; kind < 8; kind++ {
				keys := node{Kind: kind, N: 1, K: names("ed25519:1", "ed25519:1"), L: []node{own}}
				servers := node{Kind: kind, S: "s", K: names("a.b", "a.b", "c"), L: []node{keys, keys}}
				r.Verify(v, node{Kind: kind, K: names("sender", "signatures"), L: []node{tree.Text("@u:a.b"), servers}})
				r.Verify(v, mapOf(names("sender", "signatures"), tree.Text("@u:a.b"), servers, own))
			}
		}
	}
}
