package conhash_test

import (
	"crypto/sha256"
	"encoding/base64"
	"encoding/json"
	"math/rand"
	"slices"
	"strings"
	"testing"

	"sealring/api"
	"sealring/canon"
	"sealring/conhash"
	"sealring/parse"
	"sealring/tree"
)

type node = api.Node

func mapOf(keys []string, values ...node) node { return node{Kind: api.Map, K: keys, L: values} }

func read(t *testing.T, s string) node {
	t.Helper()
	n, _, e := parse.Parse(s)
	if e != api.OK {
		t.Fatalf("%s: %d", s, e)
	}
	return n
}

// hashOf is a text's, by the library's means.
func hashOf(s string) string {
	h := sha256.Sum256([]byte(s))
	return base64.RawStdEncoding.EncodeToString(h[:])
}

// contentOf is the form of a map without what isn't hashed, by the library's means; it does for texts of plain letters.
func contentOf(t *testing.T, n node) string {
	t.Helper()
	s, _ := canon.Encode(n)
	var m map[string]any
	if e := json.Unmarshal([]byte(s), &m); e != nil {
		t.Fatal(s, e)
	}
	for _, key := range []string{"unsigned", "signatures", "hashes"} {
		delete(m, key)
	}
	b, e := json.Marshal(m)
	if e != nil {
		t.Fatal(s, e)
	}
	return string(b)
}

// tells asks for a node's hash.
func tells(t *testing.T, n node, want string) {
	t.Helper()
	if s, e := conhash.Of(n); s != want || e != api.OK {
		t.Errorf("Of(%+v): %q, %d, not %q", n, s, e, want)
	}
}

// puts asks for a node with its hash, node by node in its order, and that it passes.
func puts(t *testing.T, n, want node) {
	t.Helper()
	got, e := conhash.Put(n)
	if !tree.Exact(got, want) || e != api.OK {
		t.Errorf("Put(%+v): %+v, %d, not %+v", n, got, e, want)
	}
	checks(t, want, api.OK)
}

func checks(t *testing.T, n node, want api.Errno) {
	t.Helper()
	if e := conhash.Check(n); e != want {
		t.Errorf("Check(%+v): %d, not %d", n, e, want)
	}
}

// with is a map with that field sha256 of its hashes, and nothing else in them.
func with(n node, hash string) node {
	return tree.Put(n, "hashes", tree.Map(tree.Text("sha256"), tree.Text(hash)))
}

// refuses asks all calls for one error.
func refuses(t *testing.T, n node, want api.Errno) {
	t.Helper()
	if s, e := conhash.Of(n); s != "" || e != want {
		t.Errorf("Of: %q, %d, not %d", s, e, want)
	}
	if got, e := conhash.Put(n); !tree.Exact(got, node{}) || e != want {
		t.Errorf("Put: %+v, %d, not %d", got, e, want)
	}
	if e := conhash.Check(n); e != want {
		t.Errorf("Check: %d, not %d", e, want)
	}
}

func TestP35_1Of(t *testing.T) {
	for text, hashed := range map[string]string{
		`{}`: `{}`,
		`{"unsigned":1,"hashes":null,"signatures":[]}`:                                       `{}`,
		`{"b":1,"a":2,"hashes":{}}`:                                                          `{"a":2,"b":1}`,
		`{"unsigned":{"age":1},"a":[{"d":null,"c":true}]}`:                                   `{"a":[{"c":true,"d":null}]}`,
		`{"a":2,"signatures":{"a.b":{"ed25519:1":"s"}}}`:                                     `{"a":2}`,
		`{"content":{"unsigned":1,"signatures":2,"hashes":3},"x":-9007199254740991}`:         `{"content":{"hashes":3,"signatures":2,"unsigned":1},"x":-9007199254740991}`,
		`{"\u00e9":"\u000a\u2028<","event_id":"$e","redacts":"r","age":1}`:                   "{\"age\":1,\"event_id\":\"$e\",\"redacts\":\"r\",\"\u00e9\":\"\\n\u2028<\"}",
		`{"Hashes":1,"hash":2,"sha256":"x","":3}`:                                            `{"":3,"Hashes":1,"hash":2,"sha256":"x"}`,
		`{"type":"m.room.message","content":{"body":"b"},"hashes":{"sha256":"x"},"depth":1}`: `{"content":{"body":"b"},"depth":1,"type":"m.room.message"}`,
		`{"a":"` + strings.Repeat("x", 100000) + `"}`:                                        `{"a":"` + strings.Repeat("x", 100000) + `"}`,
	} {
		tells(t, read(t, text), hashOf(hashed))
	}
	tells(t, tree.Map(), "RBNvo1WzZ4oRRq0W9+hknpT7T8If536DEMBg9hyq/4o") // of the bytes {}
}

// Some hashes have signs by which the two ways to write them differ.
func TestP35_1WrittenWithoutUrl(t *testing.T) {
	met := map[byte]int{}
	for i := range 200 {
		n := tree.Map(tree.Text("n"), tree.Int(int64(i)))
		want := hashOf(contentOf(t, n))
		tells(t, n, want)
		if s, _ := conhash.Of(n); len(s) != 43 {
			t.Error(len(s), "signs:", s)
		}
		for _, sign := range []byte(want) {
			met[sign]++
		}
	}
	if len(met) != 64 || met['+'] == 0 || met['/'] == 0 {
		t.Error("not all signs were met:", len(met))
	}
}

// bad are nodes of which no content is told, by the error.
func bad() map[api.Errno][]node {
	deep := tree.Null()
	for range 1000000 {
		deep = tree.List(deep)
	}
	l := map[api.Errno][]node{
		api.ErrKind:  {{}, {Kind: 7}, {Kind: api.Map, N: 1}, {Kind: api.Map, S: "s"}, {Kind: api.List, S: "a"}, {Kind: api.Text, K: []string{"a"}}},
		api.ErrRange: {tree.Int(1 << 53), {Kind: api.Bool, N: 2}, tree.List(tree.Int(-1 << 53))},
		api.ErrText:  {tree.Text("\xff"), mapOf([]string{"\xff"}, tree.Null())},
		api.ErrArg:   {mapOf([]string{"type"}), mapOf(nil, tree.Null()), mapOf([]string{"hashes", "x"}, tree.Null())},
		api.ErrTwice: {mapOf([]string{"x", "x"}, tree.Null(), tree.Null()), mapOf([]string{"hashes", "hashes"}, tree.Map(), tree.Map())},
		api.ErrDeep:  {deep},
		api.ErrType:  {tree.Null(), tree.Bool(true), tree.Int(1), tree.Text("hashes"), tree.Text(""), tree.List(), tree.List(tree.Map())},
	}
	for e, inside := range l {
		if e == api.ErrType {
			continue
		}
		for _, n := range inside {
			for _, key := range []string{"x", "unsigned", "signatures", "hashes", "content"} {
				l[e] = append(l[e], tree.Map(tree.Text(key), n))
				if key != "hashes" {
					l[e] = append(l[e], with(tree.Map(tree.Text(key), n), hashOf(`{}`)))
				}
			}
		}
	}
	return l
}

func TestP35_1WhatIsRefused(t *testing.T) {
	for want, l := range bad() {
		for _, n := range l {
			refuses(t, n, want)
		}
	}
}

func TestP35_2Put(t *testing.T) {
	empty, a := hashOf(`{}`), hashOf(`{"a":1,"b":2}`)
	for text, want := range map[string]string{
		`{}`:                       `{"hashes":{"sha256":"` + empty + `"}}`,
		`{"hashes":{}}`:            `{"hashes":{"sha256":"` + empty + `"}}`,
		`{"hashes":null}`:          `{"hashes":{"sha256":"` + empty + `"}}`,
		`{"hashes":[{"c":1}]}`:     `{"hashes":{"sha256":"` + empty + `"}}`,
		`{"hashes":"sha256"}`:      `{"hashes":{"sha256":"` + empty + `"}}`,
		`{"hashes":false}`:         `{"hashes":{"sha256":"` + empty + `"}}`,
		`{"hashes":3}`:             `{"hashes":{"sha256":"` + empty + `"}}`,
		`{"b":2,"a":1}`:            `{"b":2,"a":1,"hashes":{"sha256":"` + a + `"}}`,
		`{"b":2,"hashes":1,"a":1}`: `{"b":2,"hashes":{"sha256":"` + a + `"},"a":1}`,
		`{"unsigned":{"u":1},"b":2,"hashes":{"z":1,"sha256":"x","md5":[1]},"signatures":{"s":{}},"a":1}`: `{"unsigned":{"u":1},"b":2,"hashes":{"z":1,"sha256":"` + a + `","md5":[1]},"signatures":{"s":{}},"a":1}`,
		`{"hashes":{"z":1},"b":2,"a":1}`:                             `{"hashes":{"z":1,"sha256":"` + a + `"},"b":2,"a":1}`,
		`{"hashes":{"sha256":{"sha256":""}},"a":1,"b":2}`:            `{"hashes":{"sha256":"` + a + `"},"a":1,"b":2}`,
		`{"hashes":{"sha256":null,"":0},"a":1,"b":2}`:                `{"hashes":{"sha256":"` + a + `","":0},"a":1,"b":2}`,
		`{"hashes":{"sha256":"` + a + `"},"a":1,"b":2}`:              `{"hashes":{"sha256":"` + a + `"},"a":1,"b":2}`,
		`{"hashes":{"SHA256":"` + a + `"},"a":1,"unsigned":0,"b":2}`: `{"hashes":{"SHA256":"` + a + `","sha256":"` + a + `"},"a":1,"unsigned":0,"b":2}`,
	} {
		puts(t, read(t, text), read(t, want))
	}
}

func TestP35_2Check(t *testing.T) {
	const text = `{"type":"x","content":{"body":"b"},"unsigned":{"age":1},"signatures":{}}`
	n := read(t, text)
	own := hashOf(`{"content":{"body":"b"},"type":"x"}`)
	checks(t, with(n, own), api.OK)
	checks(t, tree.Put(n, "hashes", tree.Map(tree.Text("md5"), tree.Int(1), tree.Text("sha256"), tree.Text(own), tree.Text("x"), tree.Null())), api.OK)

	// No field hashes that is a Map, or no sha256 in it that is a Text.
	checks(t, tree.Map(), api.ErrField)
	checks(t, n, api.ErrField)
	checks(t, tree.Put(n, "sha256", tree.Text(own)), api.ErrField)
	checks(t, tree.Put(n, "Hashes", tree.Map(tree.Text("sha256"), tree.Text(own))), api.ErrField)
	hash := tree.Map(tree.Text("sha256"), tree.Text(own))
	for _, v := range []node{tree.Null(), tree.Bool(false), tree.Int(0), tree.Text(own), tree.Text("sha256"), tree.List(), tree.List(hash), tree.List(tree.Text("sha256"), tree.Text(own)), tree.Map(), tree.Map(tree.Text("hashes"), hash), tree.Map(tree.Text("SHA256"), tree.Text(own)), tree.Map(tree.Text("sha256 "), tree.Text(own))} {
		checks(t, tree.Put(n, "hashes", v), api.ErrField)
	}
	for _, v := range []node{tree.Null(), tree.Bool(true), tree.Int(1), tree.List(), tree.List(tree.Text(own)), tree.Map(), hash} {
		checks(t, tree.Put(n, "hashes", tree.Map(tree.Text("sha256"), v)), api.ErrField)
		checks(t, tree.Put(n, "hashes", tree.Map(tree.Text("sha256"), v, tree.Text("sha512"), tree.Text(own))), api.ErrField)
	}
}

func TestP35_2OtherHashes(t *testing.T) {
	for i := range 20 {
		n := tree.Map(tree.Text("n"), tree.Int(int64(i)))
		own := hashOf(contentOf(t, n))
		checks(t, with(n, own), api.OK)
		others := []string{"", own + "=", own + "A", own[1:], own[:42], " " + own, own + "\n", own + own, hashOf(""), hashOf(`{}`), hashOf(contentOf(t, n) + " "), hashOf(own), contentOf(t, n)}
		raw, _ := base64.RawStdEncoding.DecodeString(own)
		others = append(others, string([]rune(own)[:20])+"\u00e9", base64.StdEncoding.EncodeToString(raw))
		for _, change := range []string{strings.ToLower(own), strings.ToUpper(own), base64.RawURLEncoding.EncodeToString(raw)} {
			if change != own {
				others = append(others, change)
			}
		}
		// The last sign has four bits of the hash: the other two are told apart, too.
		const signs = "ABCDEFGHIJKLMNOPQRSTUVWXYZabcdefghijklmnopqrstuvwxyz0123456789+/"
		for more := 1; more < 4; more++ {
			others = append(others, own[:42]+signs[strings.IndexByte(signs, own[42])+more:][:1])
		}
		for _, other := range others {
			checks(t, with(n, other), api.ErrHash)
		}
	}
}

// What stands there already, or is wrong otherwise, goes first.
func TestP35_2WhatIsToldFirst(t *testing.T) {
	right := tree.Map(tree.Text("sha256"), tree.Text(hashOf(`{}`)))
	checks(t, mapOf([]string{"hashes", "x"}, right, tree.Int(1<<53)), api.ErrRange)
	checks(t, mapOf([]string{"hashes", "x"}, tree.Map(), tree.Int(1<<53)), api.ErrRange)
	checks(t, mapOf([]string{"hashes"}, mapOf([]string{"sha256"}, tree.Text("\xff"))), api.ErrText)
	checks(t, mapOf([]string{"hashes"}, mapOf([]string{"sha256", "sha256"}, tree.Text("x"), tree.Text("x"))), api.ErrTwice)
	checks(t, mapOf([]string{"hashes", "unsigned"}, tree.Null(), node{}), api.ErrKind)
	checks(t, tree.List(right), api.ErrType)
	checks(t, node{Kind: api.List, K: []string{"hashes"}, L: []node{right}}, api.ErrKind)
	checks(t, mapOf([]string{"hashes", "x"}, right), api.ErrArg)
}

// anyOf is some value that may be.
func anyOf(r *rand.Rand, deep int) node {
	switch k := r.Intn(6); {
	case k == 0:
		return tree.Bool(r.Intn(2) == 0)
	case k == 1:
		return tree.Int(int64(r.Intn(9) - 4))
	case k == 2 || deep == 0:
		return tree.Text(strings.Repeat("t", r.Intn(4)))
	case k == 3:
		return tree.List(anyOf(r, deep-1), anyOf(r, deep-1))
	}
	return anyMap(r, deep)
}

func anyMap(r *rand.Rand, deep int) node {
	n := tree.Map()
	for range r.Intn(6) {
		n = tree.Put(n, strings.Fields("a b signatures unsigned hashes sha256 content type")[r.Intn(8)], anyOf(r, deep-1))
	}
	return n
}

func TestP35_2AnyMaps(t *testing.T) {
	r := rand.New(rand.NewSource(35))
	for range 500 {
		n := anyMap(r, 4)
		own := hashOf(contentOf(t, n))
		tells(t, n, own)
		old, _ := tree.Get(n, "hashes")
		if old.Kind != api.Map {
			old = tree.Map()
		}
		puts(t, n, tree.Put(n, "hashes", tree.Put(old, "sha256", tree.Text(own))))
	}
}

func TestP35_3WhatIsPutIsChecked(t *testing.T) {
	r := rand.New(rand.NewSource(353))
	for range 200 {
		n := anyMap(r, 4)
		put, _ := conhash.Put(n)
		again, e := conhash.Put(put)
		if !tree.Exact(again, put) || e != api.OK {
			t.Errorf("%+v: %+v, %d", put, again, e)
		}
		checks(t, tree.Sorted(put), api.OK)
		for _, key := range []string{"unsigned", "signatures"} {
			checks(t, tree.Put(put, key, anyOf(r, 3)), api.OK)
			checks(t, tree.Without(put, key), api.OK)
		}
		own, _ := conhash.Of(n)
		for _, key := range []string{"a", "type", "content", "sha256", "more", "Unsigned"} {
			for _, changed := range []node{tree.Put(put, key, anyOf(r, 2)), tree.Without(put, key)} {
				want := api.OK
				if hashOf(contentOf(t, changed)) != own {
					want = api.ErrHash
				}
				checks(t, changed, want)
			}
		}
	}
}

// roomy is a map whose lists have room behind, in which something stands.
func roomy(keys []string, values ...node) node {
	n := mapOf(append(slices.Clone(keys), "spare"), append(slices.Clone(values), tree.Text("spare"))...)
	n.K, n.L = n.K[:len(keys)], n.L[:len(keys)]
	return n
}

// isWhole asks whether that still stands there.
func isWhole(t *testing.T, n node) {
	t.Helper()
	i := len(n.K)
	if n.K[:i+1][i] != "spare" || n.L[:i+1][i].S != "spare" {
		t.Errorf("%+v: its spare room has changed", n)
	}
}

func TestP35WhatIsHandedInIsNotChanged(t *testing.T) {
	for _, keys := range [][]string{{"sha256", "y"}, {"y", "sha256"}, {"y", "z"}} {
		hashes := roomy(keys, tree.Text("x"), tree.Text("x"))
		n := roomy([]string{"b", "hashes", "unsigned", "a"}, tree.Int(1), hashes, tree.Map(), tree.List(tree.Int(1)))
		before := read(t, `{"b":1,"hashes":{"`+keys[0]+`":"x","`+keys[1]+`":"x"},"unsigned":{},"a":[1]}`)
		conhash.Of(n)
		conhash.Put(n)
		conhash.Check(n)
		if !tree.Exact(n, before) {
			t.Errorf("%+v", n)
		}
		isWhole(t, n)
		isWhole(t, hashes)
	}
	bare := roomy([]string{"b"}, tree.Int(1))
	conhash.Put(bare)
	isWhole(t, bare)
}
