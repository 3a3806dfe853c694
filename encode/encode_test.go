package encode_test

import (
	"bytes"
	"encoding/base64"
	"encoding/json"
	"math"
	"math/rand"
	"slices"
	"strconv"
	"strings"
	"testing"

	"sealring/api"
	"sealring/decode"
	"sealring/encode"
	"sealring/frame"
	"sealring/parse"
	"sealring/recog"
	"sealring/schema"
	"sealring/tree"
)

type (
	node = api.Node
	txn  = api.Txn
)

var noVersions = []int{0, -1, 12, 13, 100, math.MinInt, math.MaxInt}

func isOwn(v int) bool { return v <= 2 }

func mapOf(keys []string, values ...node) node { return node{Kind: api.Map, K: keys, L: values} }

func many(n node, times int) []node { return slices.Repeat([]node{n}, times) }

// edu is a short-lived event with so many bytes of text in it.
func edu(kind string, size int) node {
	return tree.Map(tree.Text("edu_type"), tree.Text(kind), tree.Text("content"), tree.Map(tree.Text("x"), tree.Text(strings.Repeat("x", size))))
}

// event is one that may be, with so many bytes of text in it; its fields don't stand in the order of its form.
func event(v, size int) node {
	hash := base64.RawStdEncoding.EncodeToString(make([]byte, 32))
	n := tree.Map(
		tree.Text("type"), tree.Text("x"), tree.Text("room_id"), tree.Text("!r:o"), tree.Text("sender"), tree.Text("@s:a.b"),
		tree.Text("content"), tree.Map(tree.Text("z"), tree.Null(), tree.Text("body"), tree.Text(strings.Repeat("b", size))),
		tree.Text("depth"), tree.Int(7), tree.Text("origin_server_ts"), tree.Int(8), tree.Text("prev_events"), tree.List(), tree.Text("auth_events"), tree.List(),
		tree.Text("hashes"), tree.Map(tree.Text("sha256"), tree.Text(hash)), tree.Text("signatures"), tree.Map(),
	)
	if isOwn(v) {
		return tree.Put(n, "event_id", tree.Text("$e:a.b"))
	}
	return n
}

// anyOf is a value as the library has it.
func anyOf(n node) any {
	switch n.Kind {
	case api.Bool:
		return n.N == 1
	case api.Int:
		return n.N
	case api.Text:
		return n.S
	case api.List:
		l := []any{}
		for _, m := range n.L {
			l = append(l, anyOf(m))
		}
		return l
	case api.Map:
		m := map[string]any{}
		for i, key := range n.K {
			m[key] = anyOf(n.L[i])
		}
		return m
	}
	return nil
}

// formOf is a transaction's form, by the library's means (of plain texts).
func formOf(t *testing.T, x txn) string {
	t.Helper()
	m := map[string]any{"origin": x.Origin, "origin_server_ts": x.TS, "pdus": anyOf(tree.List(x.Pdus...))}
	if len(x.Edus) > 0 {
		m["edus"] = anyOf(tree.List(x.Edus...))
	}
	var b bytes.Buffer
	w := json.NewEncoder(&b)
	w.SetEscapeHTML(false)
	if e := w.Encode(m); e != nil {
		t.Fatal(e)
	}
	return strings.TrimSuffix(b.String(), "\n")
}

func shown(s string) string { return strconv.Quote(s[:min(len(s), 300)]) }

func writes(t *testing.T, v int, x txn, want string) {
	t.Helper()
	if s, name, e := encode.Encode(v, x); s != want || name != "" || e != api.OK {
		t.Errorf("Encode(%d): %s, %q, %d, not %s", v, shown(s), name, e, shown(want))
	}
}

func refuses(t *testing.T, v int, x txn, name string, want api.Errno) {
	t.Helper()
	if s, got, e := encode.Encode(v, x); s != "" || got != name || e != want {
		t.Errorf("Encode(%d, %q of %d and %d): %s, %q, %d, not %q, %d", v, x.Origin, len(x.Pdus), len(x.Edus), shown(s), got, e, name, want)
	}
}

func TestP45_1TheForm(t *testing.T) {
	for v := 1; v <= 11; v++ {
		writes(t, v, txn{Origin: "a.b"}, `{"origin":"a.b","origin_server_ts":0,"pdus":[]}`)
		writes(t, v, txn{Origin: "a.b", TS: 7, Pdus: []node{}, Edus: []node{}}, `{"origin":"a.b","origin_server_ts":7,"pdus":[]}`)
		writes(t, v, txn{Origin: "[::1]:80", TS: api.MaxInt, Edus: []node{edu("m.typing", 1), edu("x", 0)}},
			`{"edus":[{"content":{"x":"x"},"edu_type":"m.typing"},{"content":{"x":""},"edu_type":"x"}],"origin":"[::1]:80","origin_server_ts":9007199254740991,"pdus":[]}`)
		id := ""
		if isOwn(v) {
			id = `"event_id":"$e:a.b",`
		}
		hash := strings.Repeat("A", 43)
		one := `{"auth_events":[],"content":{"body":"b","z":null},"depth":7,` + id + `"hashes":{"sha256":"` + hash + `"},"origin_server_ts":8,"prev_events":[],"room_id":"!r:o","sender":"@s:a.b","signatures":{},"type":"x"}`
		writes(t, v, txn{Origin: "a.b", Pdus: []node{event(v, 1), event(v, 1)}}, `{"origin":"a.b","origin_server_ts":0,"pdus":[`+one+`,`+one+`]}`)
		x := txn{Origin: "a", TS: 1, Pdus: []node{event(v, 0), event(v, 5), event(v, 2)}, Edus: []node{edu("y", 3), edu("x", 2)}}
		writes(t, v, x, formOf(t, x))
		x = txn{Origin: "a", Pdus: many(event(v, 0), 50), Edus: many(edu("x", 0), 100)}
		writes(t, v, x, formOf(t, x))
		x = txn{Origin: "a", Edus: []node{tree.Put(edu("\"\\\n\x00\u00e9\U0001f600", 0), "more", tree.Bool(true))}}
		writes(t, v, x, `{"edus":[{"content":{"x":""},"edu_type":"\"\\\n\u0000é😀","more":true}],"origin":"a","origin_server_ts":0,"pdus":[]}`)
	}
}

func TestP45_1VersionIsToldFirst(t *testing.T) {
	for _, v := range noVersions {
		for _, x := range []txn{{}, {Origin: "a.b"}, {Origin: "a.b", Pdus: []node{{}}}, {Origin: "a.b", Pdus: []node{event(3, 0)}}, {Origin: "a..b", TS: -1}, {Origin: "a.b", Edus: many(edu("x", 70000), 9)}} {
			refuses(t, v, x, "", api.ErrVersion)
		}
	}
}

// fault is what makes of a transaction one that frame doesn't read, with the field and the error that are told.
type fault struct {
	spoil func(x *txn)
	name  string
	want  api.Errno
}

// unframed are faults, each of which is told in spite of those ahead of it.
func unframed() []fault {
	return []fault{
		{func(x *txn) { x.Edus = []node{edu("", 0)} }, "edus", api.ErrShort},
		{func(x *txn) { x.Edus = []node{edu("x", 0), edu(strings.Repeat("x", 256), 0), edu("", 0)} }, "edus", api.ErrLong},
		{func(x *txn) { x.Edus = []node{tree.Int(1), edu("", 0)} }, "edus", api.ErrType},
		{func(x *txn) { x.Origin = "a..b" }, "origin", api.ErrName},
		{func(x *txn) { x.Origin = strings.Repeat("a", 231) }, "origin", api.ErrLong},
		{func(x *txn) { x.Origin = "" }, "origin", api.ErrName},
		{func(x *txn) { x.Edus = many(tree.Null(), 101) }, "edus", api.ErrMany},
		{func(x *txn) { x.Pdus = many(tree.Null(), 51) }, "pdus", api.ErrMany},
		{func(x *txn) { x.TS = -1 }, "origin_server_ts", api.ErrRange},
		{func(x *txn) { x.TS = -api.MaxInt }, "origin_server_ts", api.ErrRange},
		{func(x *txn) { x.Edus = append(x.Edus, tree.Text("\xff")) }, "", api.ErrText},
		{func(x *txn) { x.Pdus = append(x.Pdus, mapOf([]string{"a", "a"}, tree.Null(), tree.Null())) }, "", api.ErrTwice},
		{func(x *txn) { x.Pdus = append([]node{{}}, x.Pdus...) }, "", api.ErrKind},
		{func(x *txn) { x.TS = api.MaxInt + 1 }, "", api.ErrRange},
		{func(x *txn) { x.TS = math.MinInt64 }, "", api.ErrRange},
		{func(x *txn) { x.Origin = "\xff" }, "", api.ErrText},
	}
}

func TestP45_1WhatIsNoTransaction(t *testing.T) {
	for v := 1; v <= 11; v++ {
		spoilt := txn{Origin: "a.b", Pdus: []node{tree.Null()}}
		for _, x := range unframed() {
			for _, one := range []txn{{Origin: "a.b"}, {Origin: "a.b", TS: 5, Pdus: []node{event(v, 1)}}, {Origin: "a.b", Pdus: many(event(v, 60000), 5)}} {
				x.spoil(&one)
				refuses(t, v, one, x.name, x.want)
			}
			x.spoil(&spoilt)
			refuses(t, v, spoilt, x.name, x.want)
		}
	}
	deep := tree.Null()
	for range 100000 {
		deep = tree.List(deep)
	}
	refuses(t, 3, txn{Origin: "a.b", Pdus: []node{deep}}, "", api.ErrDeep)
	refuses(t, 3, txn{Origin: "a.b", Edus: []node{deep}}, "", api.ErrDeep)
}

// An event that may be by itself may be too deep within a transaction.
func TestP45_1HowDeep(t *testing.T) {
	nested := func(levels int) node {
		n := tree.Null()
		for range levels - 1 {
			n = tree.List(n)
		}
		return tree.Put(event(3, 0), "content", tree.Map(tree.Text("x"), n))
	}
	x := txn{Origin: "a.b", Pdus: []node{nested(60)}} // below the transaction, the list, the event and the content
	writes(t, 3, x, formOf(t, x))
	if _, e := schema.Check(3, nested(61)); e != api.OK {
		t.Error(e)
	}
	refuses(t, 3, txn{Origin: "a.b", Pdus: []node{nested(61)}}, "", api.ErrDeep)
}

func TestP45_1EventsThatMayNotBe(t *testing.T) {
	for v := 1; v <= 11; v++ {
		n := event(v, 1)
		bad := map[api.Errno][]node{
			api.ErrType:  {tree.Null(), tree.Int(1), tree.Text("x"), tree.List(n), tree.Put(n, "sender", tree.Null()), tree.Put(n, "signatures", tree.Map(tree.Text("a.b"), tree.Null()))},
			api.ErrField: {tree.Map(), tree.Without(n, "depth"), tree.Put(n, "hashes", tree.Map())},
			api.ErrRange: {tree.Put(n, "depth", tree.Int(-1))},
			api.ErrLong:  {tree.Put(n, "type", tree.Text(strings.Repeat("t", 256)))},
			api.ErrID:    {tree.Put(n, "room_id", tree.Text("r")), tree.Put(n, "redacts", tree.Text("$"))},
			api.ErrName:  {tree.Put(n, "origin", tree.Text("a..b"))},
			api.ErrMany:  {tree.Put(n, "prev_events", tree.List(many(tree.Null(), 21)...))},
			api.ErrHash:  {tree.Put(n, "hashes", tree.Map(tree.Text("sha256"), tree.Text("")))},
			api.ErrBig:   {event(v, 65536)},
		}
		if isOwn(v) {
			bad[api.ErrField] = append(bad[api.ErrField], tree.Without(n, "event_id"))
		} else {
			bad[api.ErrMore] = []node{tree.Put(n, "event_id", tree.Text("$e:a.b"))}
		}
		for want, l := range bad {
			for _, other := range l {
				refuses(t, v, txn{Origin: "a.b", Pdus: []node{other}}, "pdus", want)
				refuses(t, v, txn{Origin: "a.b", Pdus: []node{n, n, other}, Edus: []node{edu("x", 1)}}, "pdus", want)
				for _, behind := range []node{tree.Null(), tree.Map(), tree.Put(n, "depth", tree.Int(-1)), event(v, 65536)} {
					refuses(t, v, txn{Origin: "a.b", Pdus: []node{n, other, behind}}, "pdus", want)
				}
				refuses(t, v, txn{Origin: "a.b", Pdus: append(many(n, 49), other)}, "pdus", want)
				// This is told in spite of how long the whole is.
				refuses(t, v, txn{Origin: "a.b", Pdus: []node{other}, Edus: []node{edu("x", 300000)}}, "pdus", want)
			}
		}
	}
}

func TestP45_1AtMostSoLong(t *testing.T) {
	for v := 1; v <= 11; v++ {
		for _, x := range []txn{{Origin: "a.b"}, {Origin: "a.b", TS: 12345, Pdus: many(event(v, 60000), 4)}, {Origin: "a.b", Edus: many(edu("y", 100), 99)}} {
			of := func(size int) txn {
				y := x
				y.Edus = append(slices.Clone(x.Edus), edu("x", size))
				return y
			}
			room := 262144 - len(formOf(t, of(0)))
			for _, size := range []int{0, room - 1, room} {
				writes(t, v, of(size), formOf(t, of(size)))
			}
			for _, size := range []int{room + 1, room + 2, room + 1000, 1000000} {
				refuses(t, v, of(size), "", api.ErrLong)
			}
		}
		// The form counts, in which a byte may stand for six.
		noughts := func(times int) txn {
			return txn{Origin: "a.b", Edus: []node{edu(strings.Repeat("\x00", times), 261000)}}
		}
		if s, _, e := encode.Encode(v, noughts(100)); e != api.OK || !strings.HasSuffix(s, `\u0000"}],"origin":"a.b","origin_server_ts":0,"pdus":[]}`) {
			t.Error(len(s), e)
		}
		refuses(t, v, noughts(200), "", api.ErrLong)
		refuses(t, v, txn{Origin: "a.b", Pdus: many(event(v, 65000), 5)}, "", api.ErrLong)
	}
}

func sizes(t *testing.T, want int, l ...txn) {
	t.Helper()
	if got, e := encode.Size(l...); got != want || e != api.OK {
		t.Errorf("Size of %d: %d, %d, not %d", len(l), got, e, want)
	}
}

func TestP45_2Size(t *testing.T) {
	sizes(t, 2)
	sizes(t, len(`[{"origin":"","origin_server_ts":0,"pdus":[]}]`), txn{})
	sizes(t, len(`[{"origin":"a.b","origin_server_ts":-10,"pdus":[]},{"origin":"a..b","origin_server_ts":0,"pdus":[null,{"a":[]}]}]`), txn{Origin: "a.b", TS: -10}, txn{Origin: "a..b", Pdus: []node{tree.Null(), tree.Map(tree.Text("a"), tree.List())}})
	sizes(t, len(`[{"edus":[1],"origin":"\u0000","origin_server_ts":0,"pdus":[]}]`), txn{Origin: "\x00", Edus: []node{tree.Int(1)}, Pdus: []node{}})
	// Neither what may be sent nor how much of it counts for anything.
	x := txn{Origin: "a.b", Pdus: many(event(3, 70000), 60), Edus: many(edu("x", 3000), 200)}
	sizes(t, 1+len(formOf(t, x))+1+len(formOf(t, txn{}))+1+len(formOf(t, x))+1, x, txn{}, x)
}

func TestP45_2WhatHasNoSize(t *testing.T) {
	deep := tree.Null()
	for range 61 {
		deep = tree.List(deep)
	}
	x := txn{Origin: "a", Pdus: []node{deep.L[0]}}
	sizes(t, 1+len(formOf(t, x))+1, x)
	for want, l := range map[api.Errno][]txn{
		api.ErrRange: {{TS: 1 << 53}, {TS: math.MinInt64}, {Pdus: []node{tree.Int(1 << 53)}}},
		api.ErrText:  {{Origin: "\xff"}, {Edus: []node{tree.Text("\xff")}}},
		api.ErrKind:  {{Pdus: []node{{}}}, {Edus: []node{tree.Null(), {Kind: 7}}}, {Pdus: []node{{}}, Edus: []node{tree.Text("\xff")}}},
		api.ErrTwice: {{Pdus: []node{mapOf([]string{"a", "a"}, tree.Null(), tree.Null())}}},
		api.ErrArg:   {{Pdus: []node{mapOf([]string{"a"})}}},
		api.ErrDeep:  {{Pdus: []node{deep}}, {Edus: []node{tree.Null(), deep}}},
	} {
		for _, x := range l {
			for _, l := range [][]txn{{x}, {{Origin: "a.b"}, x}, {x, {}}, {{}, x, {Origin: "\xff"}, {Pdus: []node{{}}}}} {
				if size, e := encode.Size(l...); size != 0 || e != want {
					t.Errorf("Size(%+v): %d, %d, not %d", l, size, e, want)
				}
			}
		}
	}
}

// anyTxn is some transaction; now and then it is one that can't be written.
func anyTxn(r *rand.Rand, v int) txn {
	seldom := func(n, other node) node {
		if r.Intn(40) == 0 {
			return other
		}
		return n
	}
	x := txn{Origin: []string{"a.b", "c:1", "1.2.3.4", "[::]", "a.b", "C-d", "e"}[r.Intn(7)], TS: r.Int63n(api.MaxInt + 1)}
	if r.Intn(20) == 0 {
		x.Origin, x.TS = "", int64(r.Intn(3)-1)
	}
	for range r.Intn(4) {
		n := event(v, r.Intn(10))
		shuffle := r.Perm(len(n.K))
		for i, j := range shuffle {
			n.K[i], n.K[j], n.L[i], n.L[j] = n.K[j], n.K[i], n.L[j], n.L[i]
		}
		if r.Intn(2) == 0 {
			n = tree.Put(n, string(rune(r.Intn(3)*0x7ff+0x21)), tree.Text("<\u2028\U0001f600\x7f\x1f/"))
		}
		x.Pdus = append(x.Pdus, seldom(n, tree.Without(n, n.K[r.Intn(len(n.K))])))
	}
	for range r.Intn(4) {
		x.Edus = append(x.Edus, seldom(edu("x", r.Intn(10)), tree.Map()))
	}
	if r.Intn(10) == 0 {
		x.Edus = append(x.Edus, edu("y", r.Intn(300000)))
	}
	return x
}

// P6: what can be written comes out of the bytes as it was, and is too great just if its form is.
func TestP45_3ThereAndBack(t *testing.T) {
	r := rand.New(rand.NewSource(453))
	written := 0
	for i := range 1100 {
		v := 1 + i%11
		x := anyTxn(r, v)
		s, name, e := encode.Encode(v, x)
		size, sized := encode.Size(x)
		if e != api.OK {
			if s != "" || e == api.ErrLong && name == "" && size-2 <= api.MaxTxn {
				t.Errorf("%+v: %q, %d", x, name, e)
			}
			continue
		}
		written++
		n, _, read := parse.Parse(s)
		if name != "" || sized != api.OK || size != len(s)+2 || len(s) > api.MaxTxn || !recog.Is(s) || read != api.OK || !tree.Same(n, frame.Write(x)) {
			t.Errorf("%d: %s: %q, %d, %d", v, shown(s), name, size, read)
		}
		got, name, e := decode.Decode(v, nil, s)
		if !frame.Same(got.Txn, x) || name != "" || e != api.OK || len(got.Verdicts) != len(x.Pdus) {
			t.Errorf("%d: %s is taken out as %+v, %q, %d", v, shown(s), got.Txn, name, e)
		}
		again, _, e := encode.Encode(v, got.Txn)
		if again != s || e != api.OK {
			t.Errorf("%d: %s is written again as %s, %d", v, shown(s), shown(again), e)
		}
	}
	if written < 600 || written > 1050 {
		t.Error(written)
	}
}

func TestP45WhatIsHandedInIsNotChanged(t *testing.T) {
	of := func() txn {
		pdus := append(make([]node, 0, 9), event(3, 1), event(3, 2))
		return txn{Origin: "a.b", Pdus: pdus, Edus: append(make([]node, 0, 9), edu("x", 1))}
	}
	x := of()
	l := append(make([]txn, 0, 9), x, x)
	s, _, _ := encode.Encode(3, x)
	encode.Size(l...)
	encode.Encode(3, txn{Origin: "", Pdus: x.Pdus, Edus: x.Edus})
	again, _, e := encode.Encode(3, x)
	if s != again || e != api.OK || !slices.EqualFunc(x.Pdus, of().Pdus, tree.Exact) || !slices.EqualFunc(x.Edus, of().Edus, tree.Exact) {
		t.Errorf("%+v", x)
	}
	for _, n := range append(x.Pdus[2:9], x.Edus[1:9]...) {
		if !tree.Exact(n, node{}) {
			t.Errorf("%+v", n)
		}
	}
	for _, y := range l[2:9] {
		if !frame.Same(y, txn{}) {
			t.Errorf("%+v", y)
		}
	}
}

func TestP7EveryCallEnds(t *testing.T) {
	for kind := -1; kind < 9; kind++ {
		for i := range 64 {
			n := node{Kind: kind, N: 1 << i, S: "\xff"[:i%2], K: []string{"a", "a"}[:i%3], L: make([]node, i%4)}
			for _, v := range []int{3, 1 << i, -1 << i, i} {
				x := txn{Origin: strings.Repeat("a", i*5), TS: 1<<i - 1, Pdus: many(n, i), Edus: many(n, 2*i)}
				encode.Encode(v, x)
				encode.Encode(v, txn{Origin: "a.b", Pdus: x.Pdus})
				encode.Encode(v, txn{Origin: "a.b", Edus: x.Edus})
				encode.Size(x, txn{}, x)
			}
		}
	}
}
