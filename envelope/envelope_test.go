package envelope_test

import (
	"crypto/ed25519"
	"encoding/base64"
	"maps"
	"math"
	"math/big"
	"math/rand"
	"slices"
	"strconv"
	"strings"
	"testing"

	"sealring/api"
	"sealring/edkey"
	"sealring/envelope"
	"sealring/parse"
	"sealring/redact"
	"sealring/refhash"
	"sealring/sigs"
	"sealring/strip"
	"sealring/tree"
)

type node = api.Node

const (
	seed   = "0123456789abcdef0123456789abcdef"
	server = "a.b"
	key    = "ed25519:1"
)

var noVersions = []int{0, -1, 12, 13, 100, math.MinInt, math.MaxInt}

func mapOf(keys []string, values ...node) node { return node{Kind: api.Map, K: keys, L: values} }

func read(t *testing.T, s string) node {
	t.Helper()
	n, _, e := parse.Parse(s)
	if e != api.OK {
		t.Fatalf("%s: %d", s, e)
	}
	return n
}

// publicOf is a seed's public key, by the library's means.
func publicOf(seed string) string {
	return string(ed25519.NewKeyFromSeed([]byte(seed)).Public().(ed25519.PublicKey))
}

// bytesOf are those by which a seed signs a text, by the library's means.
func bytesOf(seed, text string) string {
	return string(ed25519.Sign(ed25519.NewKeyFromSeed([]byte(seed)), []byte(text)))
}

// valueOf is what stands in an event for that.
func valueOf(seed, text string) string {
	return base64.RawStdEncoding.EncodeToString([]byte(bytesOf(seed, text)))
}

// with is an event with that text as the signature of the server and the key, and no other one.
func with(n node, value string) node {
	return tree.Put(n, "signatures", tree.Map(tree.Text(server), tree.Map(tree.Text(key), tree.Text(value))))
}

// signs asks for an event with its signature, node by node in its order, and that it passes.
func signs(t *testing.T, v int, n node, server, key, seed string, want node) {
	t.Helper()
	got, e := envelope.Sign(v, n, server, key, seed)
	if !tree.Exact(got, want) || e != api.OK {
		t.Errorf("Sign(%d, %+v, %q, %q): %+v, %d, not %+v", v, n, server, key, got, e, want)
	}
	checks(t, v, want, server, key, publicOf(seed), api.OK)
}

func refuses(t *testing.T, v int, n node, server, key, seed string, want api.Errno) {
	t.Helper()
	if got, e := envelope.Sign(v, n, server, key, seed); !tree.Exact(got, node{}) || e != want {
		t.Errorf("Sign(%d, .., %q, %q, %d bytes): %+v, %d, not %d", v, server, key, len(seed), got, e, want)
	}
}

// checks asks Check, and Signed, which hangs on it.
func checks(t *testing.T, v int, n node, server, key, public string, want api.Errno) {
	t.Helper()
	if e := envelope.Check(v, n, server, key, public); e != want {
		t.Errorf("Check(%d, .., %q, %q, %x): %d, not %d", v, server, key, public, e, want)
	}
	many := 0
	if want == api.OK {
		many = 1
	}
	counts(t, v, n, server, map[string]string{key: public}, many)
}

func counts(t *testing.T, v int, n node, server string, keys map[string]string, want int) {
	t.Helper()
	given := maps.Clone(keys)
	if many := envelope.Signed(v, n, server, keys); many != want {
		t.Errorf("Signed(%d, .., %q, %q): %d, not %d", v, server, keys, many, want)
	}
	if !maps.Equal(keys, given) {
		t.Errorf("the keys are others: %q, not %q", keys, given)
	}
}

// event has all that is kept of some event, and more.
const event = `{"type":"m.room.member","content":{"x":1,"membership":"join","join_authorised_via_users_server":"@j:a"},"unsigned":{"age":1},"signatures":{"c.d":{"ed25519:2":"s"}},"hashes":{"sha256":"h"},"event_id":"$e:f","room_id":"!r","sender":"@s","state_key":"","depth":1,"origin_server_ts":2,"prev_events":["p"],"auth_events":[],"origin":"o","age":4}`

// kept is the form of that without unsigned and signatures, as versions keep it.
func kept(v int) string {
	content, origin := `"membership":"join"`, `"origin":"o",`
	if v >= 9 {
		content = `"join_authorised_via_users_server":"@j:a",` + content
	}
	if v >= 11 {
		origin = ""
	}
	return `{"auth_events":[],"content":{` + content + `},"depth":1,"event_id":"$e:f","hashes":{"sha256":"h"},` + origin + `"origin_server_ts":2,"prev_events":["p"],"room_id":"!r","sender":"@s","state_key":"","type":"m.room.member"}`
}

func TestP39_1Sign(t *testing.T) {
	for v := 1; v <= 11; v++ {
		value := valueOf(seed, kept(v))
		n := read(t, event)
		signs(t, v, n, server, key, seed, tree.Put(n, "signatures", read(t, `{"c.d":{"ed25519:2":"s"},"a.b":{"ed25519:1":"`+value+`"}}`)))
		signs(t, v, tree.Without(n, "signatures"), server, key, seed, with(tree.Without(n, "signatures"), value))
		signs(t, v, tree.Map(), server, key, seed, with(tree.Map(), valueOf(seed, `{}`)))
		once, _ := redact.Redact(v, n)
		signs(t, v, once, server, key, seed, tree.Put(once, "signatures", read(t, `{"c.d":{"ed25519:2":"s"},"a.b":{"ed25519:1":"`+value+`"}}`)))
	}
}

// Where the signature is put, and what becomes of what stood there.
func TestP39_1WhereItIsPut(t *testing.T) {
	value := valueOf(seed, `{"type":"x"}`)
	own := `"ed25519:1":"` + value + `"`
	for text, want := range map[string]string{
		`{}`:                            `{"a.b":{` + own + `}}`,
		`null`:                          `{"a.b":{` + own + `}}`,
		`[{"a.b":{}}]`:                  `{"a.b":{` + own + `}}`,
		`"a.b"`:                         `{"a.b":{` + own + `}}`,
		`{"a.b":null}`:                  `{"a.b":{` + own + `}}`,
		`{"a.b":"ed25519:1","c":7}`:     `{"a.b":{` + own + `},"c":7}`,
		`{"a.b":{"ed25519:1":"old"}}`:   `{"a.b":{` + own + `}}`,
		`{"a.b":{"ed25519:1":{"x":1}}}`: `{"a.b":{` + own + `}}`,
		`{"a.b":{"ed25519:1":"` + value[:85] + `","ed25519:2":"z"},"A.b":{"ed25519:1":"q"}}`: `{"a.b":{` + own + `,"ed25519:2":"z"},"A.b":{"ed25519:1":"q"}}`,
		`{"z":{"ed25519:1":"z"},"a.b":{"ed25519:0":"y","Ed25519:1":"w"},"a":{}}`:             `{"z":{"ed25519:1":"z"},"a.b":{"ed25519:0":"y","Ed25519:1":"w",` + own + `},"a":{}}`,
	} {
		for v := 1; v <= 11; v++ {
			signs(t, v, read(t, `{"unsigned":1,"signatures":`+text+`,"type":"x","age":2}`), server, key, seed, read(t, `{"unsigned":1,"signatures":`+want+`,"type":"x","age":2}`))
		}
	}
	signs(t, 1, read(t, `{"type":"x","age":2}`), server, key, seed, read(t, `{"type":"x","age":2,"signatures":{"a.b":{`+own+`}}}`))
}

func TestP39_1ServersKeysAndSeeds(t *testing.T) {
	n := read(t, `{"type":"x"}`)
	for _, server := range []string{"a", "A.b", "a.b:80", "1.2.3.4", "1.2.3.4:65535", "[::1]", "[::1]:8448", strings.Repeat("a.", 114) + "bb"} {
		for _, key := range []string{"ed25519:1", "ed25519:a_B", "ed25519:_", "ed25519:" + strings.Repeat("k", 247)} {
			for _, seed := range []string{strings.Repeat("\x00", 32), strings.Repeat("\xff", 32)} {
				signs(t, 10, n, server, key, seed, tree.Put(n, "signatures", tree.Map(tree.Text(server), tree.Map(tree.Text(key), tree.Text(valueOf(seed, `{"type":"x"}`))))))
			}
		}
	}
}

// All signs are met, those by which the two ways to write them differ, too.
func TestP39_1WrittenWithoutUrl(t *testing.T) {
	met := map[byte]int{}
	for i := range 50 {
		value := valueOf(seed, `{"depth":`+strconv.Itoa(i)+`}`)
		n := tree.Map(tree.Text("depth"), tree.Int(int64(i)))
		signs(t, 1+i%11, n, server, key, seed, with(n, value))
		for _, sign := range []byte(value) {
			met[sign]++
		}
	}
	if len(met) != 64 || met['+'] == 0 || met['/'] == 0 {
		t.Error("not all signs were met:", len(met))
	}
}

// Things that are wrong, by the error that is told.
var (
	badServers = map[string]api.Errno{"": api.ErrName, "a:": api.ErrName, "a:0": api.ErrName, "-a": api.ErrName, "a b": api.ErrName, "@a:b": api.ErrName, "1.2.3": api.ErrName, "\xff": api.ErrName, strings.Repeat("a", 231): api.ErrLong, strings.Repeat("\xff", 231): api.ErrLong}
	badKeys    = map[string]api.Errno{"": api.ErrID, "1": api.ErrID, "ed25519": api.ErrID, "ed25519:": api.ErrID, "Ed25519:1": api.ErrID, "ed25519:a-b": api.ErrID, "ed25519:1:2": api.ErrID, "ed25519:\u00e9": api.ErrID, "ed25519:" + strings.Repeat("k", 248): api.ErrLong}
	badSeeds   = []string{"", "s", seed[1:], seed + "0", seed + seed, strings.Repeat("\x00", 31)}
)

// badNodes are nodes of which nothing is signed, by the error.
func badNodes() map[api.Errno][]node {
	deep := tree.Null()
	for range 1000000 {
		deep = tree.List(deep)
	}
	return map[api.Errno][]node{
		api.ErrKind:  {{}, {Kind: 7}, {Kind: api.Map, N: 1}, {Kind: api.Map, S: "s"}, tree.Map(tree.Text("signatures"), node{}), with(tree.Map(tree.Text("unsigned"), node{}), valueOf(seed, `{}`))},
		api.ErrRange: {tree.Int(1 << 53), with(tree.Map(tree.Text("x"), tree.Int(-1<<53)), valueOf(seed, `{}`))},
		api.ErrText:  {tree.Text("\xff"), mapOf([]string{"\xff"}, tree.Null()), with(tree.Map(), "\xff")},
		api.ErrArg:   {mapOf([]string{"type"}), mapOf(nil, tree.Null()), mapOf([]string{"signatures", "x"}, tree.Map())},
		api.ErrTwice: {mapOf([]string{"x", "x"}, tree.Null(), tree.Null()), mapOf([]string{"signatures", "signatures"}, tree.Map(), tree.Map())},
		api.ErrDeep:  {deep, tree.Map(tree.Text("unsigned"), deep), with(tree.Map(tree.Text("x"), deep), valueOf(seed, `{}`)), tree.Map(tree.Text("signatures"), deep)},
		api.ErrType:  {tree.Null(), tree.Bool(true), tree.Int(1), tree.Text("signatures"), tree.Text(""), tree.List(), tree.List(with(tree.Map(), valueOf(seed, `{}`)))},
	}
}

// Of whatever is wrong the first is told: the server, the key, the version, the event, the seed.
func TestP39_1WhatIsToldFirst(t *testing.T) {
	bad := badNodes()
	good := []node{tree.Map(), read(t, event)}
	for v := 1; v <= 11; v++ {
		for want, l := range bad {
			for _, n := range l {
				refuses(t, v, n, server, key, seed, want)
				refuses(t, v, n, server, key, "s", want)
				refuses(t, v, n, server, "k", seed, api.ErrID)
				refuses(t, v, n, server, "k", "s", api.ErrID)
				refuses(t, v, n, ":", key, seed, api.ErrName)
			}
		}
	}
	for _, n := range good {
		for _, seed := range badSeeds {
			refuses(t, 3, n, server, key, seed, api.ErrArg)
		}
	}
	for _, n := range append(good, node{}, tree.List()) {
		for _, seed := range append(badSeeds, seed) {
			for _, v := range noVersions {
				refuses(t, v, n, server, key, seed, api.ErrVersion)
			}
			for _, v := range []int{1, 3, 11, 0, 12} {
				for k, want := range badKeys {
					refuses(t, v, n, server, k, seed, want)
					for s, want := range badServers {
						refuses(t, v, n, s, k, seed, want)
					}
				}
				for s, want := range badServers {
					refuses(t, v, n, s, key, seed, want)
				}
			}
		}
	}
}

func TestP39_2Check(t *testing.T) {
	public := publicOf(seed)
	for v := 1; v <= 11; v++ {
		n := read(t, event)
		signed := with(n, valueOf(seed, kept(v)))
		checks(t, v, signed, server, key, public, api.OK)
		checks(t, v, with(n, valueOf(seed, kept(v)+" ")), server, key, public, api.ErrSign)
		checks(t, v, signed, server, key, publicOf(strings.Repeat("o", 32)), api.ErrSign)
		checks(t, v, with(tree.Map(), valueOf(seed, `{}`)), server, key, public, api.OK)

		// No signature of both.
		for _, s := range []string{"", "a", "b", "A.b", "a.b ", "a.b:80", "c.d", "type"} {
			checks(t, v, signed, s, key, public, api.ErrNone)
		}
		for _, k := range []string{"", "1", "ed25519:", "ed25519:2", "ed25519:01", "Ed25519:1", "ed25519:1 "} {
			checks(t, v, signed, server, k, public, api.ErrNone)
		}
	}
}

func TestP39_2WhatIsNoSignature(t *testing.T) {
	public, value := publicOf(seed), tree.Text(valueOf(seed, `{}`))
	checks(t, 3, tree.Map(), server, key, public, api.ErrNone)
	for _, v := range []node{tree.Null(), tree.Bool(true), tree.Int(1), tree.List(), tree.List(value), tree.Map(), tree.Map(tree.Text(key), value)} {
		checks(t, 3, tree.Map(tree.Text("signatures"), tree.Map(tree.Text(server), tree.Map(tree.Text(key), v))), server, key, public, api.ErrNone)
	}
	for _, v := range []node{tree.Null(), value, tree.List(value), tree.List(tree.Map(tree.Text(key), value)), tree.Map()} {
		checks(t, 3, tree.Map(tree.Text("signatures"), tree.Map(tree.Text(server), v)), server, key, public, api.ErrNone)
		checks(t, 3, tree.Map(tree.Text("signatures"), v), server, key, public, api.ErrNone)
	}
	checks(t, 3, tree.Map(tree.Text(server), tree.Map(tree.Text(key), value)), server, key, public, api.ErrNone)
	checks(t, 3, tree.Map(tree.Text("content"), with(tree.Map(), value.S)), server, key, public, api.ErrNone)
	checks(t, 3, tree.Map(tree.Text("Signatures"), with(tree.Map(), value.S).L[0]), server, key, public, api.ErrNone)
}

// What names are asked for makes no difference, if there is a signature by them.
func TestP39_2NamesOfAnyKind(t *testing.T) {
	value := valueOf(seed, `{}`)
	for _, server := range []string{"", ":", "@a:b", "\u00e9", strings.Repeat("a", 500)} {
		for _, key := range []string{"", "k", "rsa:1", strings.Repeat("k", 500)} {
			n := tree.Map(tree.Text("signatures"), tree.Map(tree.Text(server), tree.Map(tree.Text(key), tree.Text(value))))
			checks(t, 5, n, server, key, publicOf(seed), api.OK)
			checks(t, 5, n, server, key, publicOf(strings.Repeat("o", 32)), api.ErrSign)
		}
	}
}

// unlike are texts that aren't to the base 64 what stands for 64 bytes.
func unlike(t *testing.T) []string {
	t.Helper()
	b := []byte(bytesOf(seed, `{"depth":1}`))
	own := base64.RawStdEncoding.EncodeToString(b)
	inURL := base64.RawURLEncoding.EncodeToString(b)
	if own == inURL || !strings.HasSuffix(own, "A") && !strings.HasSuffix(own, "Q") && !strings.HasSuffix(own, "g") && !strings.HasSuffix(own, "w") {
		t.Fatal("another text is needed:", own)
	}
	l := []string{"", "A", "AA", "=", "x", " ", own[1:], own[:85], own[:84], own[:83], own[:82], own + "A", own + "AA", own + "==", own + "\n", " " + own, own + own, inURL, base64.StdEncoding.EncodeToString(b), base64.RawStdEncoding.EncodeToString(b[:63]), base64.RawStdEncoding.EncodeToString(append(slices.Clone(b), 0)), base64.RawStdEncoding.EncodeToString(append(slices.Clone(b), b...)), string(make([]byte, 64)), strings.Repeat("\u00e9", 43), own[:43] + "." + own[44:]}
	// The last sign has two bits of the signature: the other four are noughts.
	const alphabet = "ABCDEFGHIJKLMNOPQRSTUVWXYZabcdefghijklmnopqrstuvwxyz0123456789+/"
	for more := 1; more < 16; more++ {
		l = append(l, own[:85]+alphabet[strings.IndexByte(alphabet, own[85])+more:][:1])
	}
	return l
}

// Whatever the public key is, a text that stands for other than 64 bytes is ErrSign.
func TestP39_2SignaturesOfOtherLengths(t *testing.T) {
	n := tree.Map(tree.Text("depth"), tree.Int(1))
	checks(t, 3, with(n, valueOf(seed, `{"depth":1}`)), server, key, publicOf(seed), api.OK)
	publics := []string{publicOf(seed), "", "p", publicOf(seed) + "p", strings.Repeat("\xff", 32), "\x02" + strings.Repeat("\x00", 31)}
	for _, value := range unlike(t) {
		for _, public := range publics {
			checks(t, 3, with(n, value), server, key, public, api.ErrSign)
		}
	}
	for many := range 200 {
		if many != 64 {
			checks(t, 3, with(n, base64.RawStdEncoding.EncodeToString(make([]byte, many))), server, key, publicOf(seed), api.ErrSign)
		}
	}
}

// high are 32 bytes that are no number below the base's order: that one's.
func high() string {
	order, _ := new(big.Int).SetString("7237005577332262213973186563042994240857116359379907606001950938285454250989", 10)
	b := order.FillBytes(make([]byte, 32))
	slices.Reverse(b)
	return string(b)
}

func TestP39_2WhatVerifyTells(t *testing.T) {
	n, right := tree.Map(), bytesOf(seed, `{}`)
	signed := func(b string) node { return with(n, base64.RawStdEncoding.EncodeToString([]byte(b))) }
	for v := 1; v <= 11; v++ {
		for public, want := range map[string]api.Errno{
			"": api.ErrArg, "p": api.ErrArg, publicOf(seed)[1:]: api.ErrArg, publicOf(seed) + "\x00": api.ErrArg, right: api.ErrArg,
			strings.Repeat("\xff", 32):          api.ErrRange,
			"\x02" + strings.Repeat("\x00", 31): api.ErrPoint,
		} {
			checks(t, v, signed(right), server, key, public, want)
			checks(t, v, signed(right[:32]+high()), server, key, public, want)
		}
		checks(t, v, signed(right[:32]+high()), server, key, publicOf(seed), api.ErrScalar)
		checks(t, v, signed(strings.Repeat("\xff", 64)), server, key, publicOf(seed), api.ErrScalar)
		checks(t, v, signed(strings.Repeat("\x00", 64)), server, key, publicOf(seed), api.ErrSign)
		checks(t, v, signed(right[:31]+"\x00"+right[32:]), server, key, publicOf(seed), api.ErrSign)
		checks(t, v, signed(right[:63]+"\x00"), server, key, publicOf(seed), api.ErrSign)
		// A point of low order lets pass what no seed has signed: R Zero, S 0, by Zero.
		zero := "\x01" + strings.Repeat("\x00", 31)
		checks(t, v, signed(zero+strings.Repeat("\x00", 32)), server, key, zero, api.OK)
	}
}

// The event goes ahead of its signature, and that ahead of the public key.
func TestP39_2WhatIsToldFirst(t *testing.T) {
	publics := []string{publicOf(seed), "p", strings.Repeat("\xff", 32)}
	for want, l := range badNodes() {
		for _, n := range l {
			for _, public := range publics {
				for v := 1; v <= 11; v++ {
					checks(t, v, n, server, key, public, want)
					checks(t, v, n, ":", "k", public, want)
				}
				for _, v := range noVersions {
					checks(t, v, n, server, key, public, api.ErrVersion)
				}
			}
		}
	}
	for _, public := range publics {
		for _, v := range noVersions {
			checks(t, v, tree.Map(), server, key, public, api.ErrVersion)
			checks(t, v, with(tree.Map(), valueOf(seed, `{}`)), server, key, public, api.ErrVersion)
		}
		checks(t, 3, with(tree.Map(), "x"), ":", key, public, api.ErrNone)
		checks(t, 3, with(tree.Map(), "x"), server, "k", public, api.ErrNone)
	}
}

func TestP39_2Signed(t *testing.T) {
	n := read(t, `{"type":"x","depth":3}`)
	keys, others, mixed := map[string]string{}, map[string]string{}, map[string]string{}
	const many = 8
	for i := range many {
		seed := strings.Repeat(string(rune('a'+i)), 32)
		own := "ed25519:" + strconv.Itoa(i)
		keys[own], others[own], mixed[own] = publicOf(seed), publicOf(strings.Repeat("z", 32)), publicOf(seed)
		if i%3 == 0 {
			mixed[own] = keys["ed25519:"+strconv.Itoa((i+many-1)%many)]
		}
		counts(t, 6, n, server, keys, i)
		var e api.Errno
		if n, e = envelope.Sign(6, n, server, own, seed); e != api.OK {
			t.Fatal(e)
		}
		counts(t, 6, n, server, keys, i+1)
		counts(t, 6, n, server, others, 0)
	}
	counts(t, 6, n, server, mixed, many-3)
	counts(t, 6, n, server, nil, 0)
	counts(t, 6, n, server, map[string]string{}, 0)
	counts(t, 6, n, "a.c", keys, 0)
	counts(t, 6, n, server, map[string]string{"ed25519:0": keys["ed25519:0"], "ed25519:9": keys["ed25519:0"], "": "", "x": keys["ed25519:0"]}, 1)
	counts(t, 6, tree.Put(n, "depth", tree.Int(4)), server, keys, 0)
	counts(t, 6, tree.Put(n, "body", tree.Int(4)), server, keys, many)
	counts(t, 0, n, server, keys, 0)
	counts(t, 12, n, server, keys, 0)
	counts(t, 6, tree.List(n), server, keys, 0)
	counts(t, 6, node{}, server, keys, 0)
}

// anyEvent has some fields, in some order, and some of them are no such ones.
func anyEvent(t *testing.T, r *rand.Rand) node {
	t.Helper()
	from := read(t, event)
	n := tree.Map()
	for _, i := range r.Perm(len(from.K))[:r.Intn(len(from.K)+1)] {
		value := from.L[i]
		if r.Intn(4) == 0 {
			value = tree.Text(strings.Repeat("t", r.Intn(4)))
		}
		n = tree.Put(n, from.K[i], value)
	}
	if r.Intn(2) == 0 {
		kinds := strings.Fields("m.room.member m.room.create m.room.message m.room.power_levels m.room.redaction")
		n = tree.Put(n, "type", tree.Text(kinds[r.Intn(len(kinds))]))
	}
	return n
}

func TestP39_3WhatIsSignedIsChecked(t *testing.T) {
	r := rand.New(rand.NewSource(39))
	for range 60 {
		v, n := 1+r.Intn(11), anyEvent(t, r)
		b := make([]byte, 32)
		r.Read(b)
		public, _ := edkey.Public(string(b))
		signing, _ := strip.Signing(v, n)
		signed, e := envelope.Sign(v, n, server, key, string(b))
		if value, _ := sigs.Get(signed, server, key); e != api.OK || value != valueOf(string(b), signing) {
			t.Errorf("%d, %+v: %q, %d", v, n, value, e)
		}
		once, _ := redact.Redact(v, signed)
		for _, n := range []node{signed, once, tree.Sorted(signed), tree.Put(signed, "unsigned", tree.Int(1)), tree.Without(signed, "unsigned"), tree.Put(signed, "age", tree.Null()), sigs.Put(signed, api.Sig{Server: "z", Key: key, Value: "x"})} {
			checks(t, v, n, server, key, public, api.OK)
		}
		for _, n := range []node{tree.Put(signed, "depth", tree.Int(77)), tree.Put(once, "room_id", tree.Text("77"))} {
			checks(t, v, n, server, key, public, api.ErrSign)
		}
	}
}

func TestP39_3WhatSigningLeavesAlone(t *testing.T) {
	r := rand.New(rand.NewSource(393))
	servers, keys := []string{"a.b", "a", "c.d:80"}, []string{"ed25519:1", "ed25519:2", "ed25519:a"}
	for range 20 {
		v, n := 1+r.Intn(11), anyEvent(t, r)
		publics := map[api.Sig]string{} // by the signature without its Value
		for range 5 {
			s := api.Sig{Server: servers[r.Intn(3)], Key: keys[r.Intn(3)]}
			b := make([]byte, 32)
			r.Read(b)
			signed, e := envelope.Sign(v, n, s.Server, s.Key, string(b))
			if e != api.OK || !refhash.Same(v, n, signed) {
				t.Errorf("%d, %+v: %+v, %d", v, n, signed, e)
			}
			value, _ := sigs.Get(signed, s.Server, s.Key)
			if want := sigs.Put(n, api.Sig{Server: s.Server, Key: s.Key, Value: value}); !tree.Exact(signed, want) {
				t.Errorf("%d, %+v: %+v, not %+v", v, n, signed, want)
			}
			n, publics[s] = signed, publicOf(string(b))
			for s, public := range publics {
				checks(t, v, n, s.Server, s.Key, public, api.OK)
			}
		}
	}
}

// roomy is that text's node, with spare room behind each list that it has.
func roomy(t *testing.T, s string) node {
	t.Helper()
	var grow func(n node) node
	grow = func(n node) node {
		n.K = append(make([]string, 0, len(n.K)+4), n.K...)
		l := make([]node, 0, len(n.L)+4)
		for _, m := range n.L {
			l = append(l, grow(m))
		}
		n.L = l
		return n
	}
	return grow(read(t, s))
}

// untouched: is the spare room behind each list empty?
func untouched(n node) bool {
	for _, k := range n.K[len(n.K):cap(n.K)] {
		if k != "" {
			return false
		}
	}
	for _, m := range n.L[len(n.L):cap(n.L)] {
		if !tree.Exact(m, node{}) {
			return false
		}
	}
	return !slices.ContainsFunc(n.L, func(m node) bool { return !untouched(m) })
}

func TestP39WhatIsHandedInIsNotChanged(t *testing.T) {
	for _, text := range []string{event, strings.ReplaceAll(event, "c.d", server), strings.ReplaceAll(event, "signatures", "x"), `{}`} {
		n := roomy(t, text)
		for v := 1; v <= 11; v++ {
			envelope.Sign(v, n, server, key, seed)
			envelope.Check(v, n, server, key, publicOf(seed))
			envelope.Signed(v, n, server, map[string]string{key: publicOf(seed)})
		}
		if !tree.Exact(n, read(t, text)) || !untouched(n) {
			t.Errorf("%+v", n)
		}
	}
}

func TestP7EveryCallEnds(t *testing.T) {
	for kind := -1; kind < 8; kind++ {
		for within := -1; within < 8; within++ {
			inner := node{Kind: within, N: 1, S: "s", K: []string{key, key}, L: []node{{Kind: kind, S: "s"}}}
			n := node{Kind: kind, N: 1, K: []string{"signatures", "signatures", "x"}, L: []node{{Kind: kind, K: []string{server}, L: []node{inner}}, inner}}
			for _, v := range []int{1, 11, 0} {
				envelope.Sign(v, n, server, key, seed)
				envelope.Check(v, n, server, key, publicOf(seed))
				envelope.Signed(v, n, server, map[string]string{key: "", "": "\xff"})
			}
		}
	}
	envelope.Signed(1, node{}, "", nil)
}
