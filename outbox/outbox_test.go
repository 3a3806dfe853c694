package outbox_test

import (
	"bytes"
	"encoding/base64"
	"encoding/json"
	"math"
	"math/rand"
	"slices"
	"sort"
	"strconv"
	"strings"
	"testing"

	"sealring/api"
	"sealring/batch"
	"sealring/decode"
	"sealring/encode"
	"sealring/outbox"
	"sealring/tree"
)

type (
	node = api.Node
	txn  = api.Txn
	box  = *outbox.Box
	send = outbox.Send
)

// last is when a transaction may be done at the latest.
const last = 1 << 52

var noVersions = []int{0, -1, 12, 13, 100, math.MinInt, math.MaxInt}

func isOwn(v int) bool { return v <= 2 }

func many(n node, times int) []node { return slices.Repeat([]node{n}, times) }

// edu is a short-lived event with so many bytes of text in it.
func edu(kind string, size int) node {
	return tree.Map(tree.Text("edu_type"), tree.Text(kind), tree.Text("content"), tree.Map(tree.Text("x"), tree.Text(strings.Repeat("x", size))))
}

// event is one that may be, with so many bytes of text in it; its fields don't stand in the order of its form.
func event(v, size int) node {
	hash := base64.RawStdEncoding.EncodeToString(make([]byte, 32))
	n := tree.Map(
		tree.Text("type"), tree.Text("x"), tree.Text("room_id"), tree.Text("!r:o"), tree.Text("sender"), tree.Text("@s:a.b"),
		tree.Text("content"), tree.Map(tree.Text("z"), tree.Null(), tree.Text("body"), tree.Text(strings.Repeat("b", size))),
		tree.Text("depth"), tree.Int(7), tree.Text("origin_server_ts"), tree.Int(8), tree.Text("prev_events"), tree.List(), tree.Text("auth_events"), tree.List(),
		tree.Text("hashes"), tree.Map(tree.Text("sha256"), tree.Text(hash)), tree.Text("signatures"), tree.Map(),
	)
	if isOwn(v) {
		return tree.Put(n, "event_id", tree.Text("$e:a.b"))
	}
	return n
}

// numbered is an event that is told from others by its number.
func numbered(n node, number int) node { return tree.Put(n, "number", tree.Int(int64(number))) }

// row is a row of events, each another one.
func row(n node, times int) []node {
	var l []node
	for i := range times {
		l = append(l, numbered(n, i))
	}
	return l
}

// anyOf is a value as the library has it.
func anyOf(n node) any {
	switch n.Kind {
	case api.Bool:
		return n.N == 1
	case api.Int:
		return n.N
	case api.Text:
		return n.S
	case api.List:
		l := []any{}
		for _, m := range n.L {
			l = append(l, anyOf(m))
		}
		return l
	case api.Map:
		m := map[string]any{}
		for i, key := range n.K {
			m[key] = anyOf(n.L[i])
		}
		return m
	}
	return nil
}

// formOf is a transaction's form, by the library's means (of plain texts).
func formOf(t *testing.T, x txn) string {
	t.Helper()
	m := map[string]any{"origin": x.Origin, "origin_server_ts": x.TS, "pdus": anyOf(tree.List(x.Pdus...))}
	if len(x.Edus) > 0 {
		m["edus"] = anyOf(tree.List(x.Edus...))
	}
	var b bytes.Buffer
	w := json.NewEncoder(&b)
	w.SetEscapeHTML(false)
	if e := w.Encode(m); e != nil {
		t.Fatal(e)
	}
	return strings.TrimSuffix(b.String(), "\n")
}

func newBox(t *testing.T, v int, origin string) box {
	t.Helper()
	b, e := outbox.New(v, origin)
	if b == nil || e != api.OK {
		t.Fatal(v, origin, e)
	}
	return b
}

// pdus and edus ask that each of these waits from now on.
func pdus(t *testing.T, b box, server string, l ...node) {
	t.Helper()
	for i, n := range l {
		if e := b.Pdu(server, n); e != api.OK {
			t.Fatalf("Pdu(%q) at %d: %d", server, i, e)
		}
	}
}

func edus(t *testing.T, b box, server string, l ...node) {
	t.Helper()
	for i, n := range l {
		if e := b.Edu(server, n); e != api.OK {
			t.Fatalf("Edu(%q) at %d: %d", server, i, e)
		}
	}
}

func shown(s string) string { return strconv.Quote(s[:min(len(s), 80)]) }

// sends asks for what is to be sent.
func sends(t *testing.T, b box, now int64, server string, number int, x txn) {
	t.Helper()
	x.TS = now
	want := send{Server: server, Number: number, Text: formOf(t, x)}
	if s, ok := b.Next(now); s != want || !ok {
		t.Errorf("Next(%d): %q, %d, %s of %d, %v, not %q, %d, %s of %d", now, s.Server, s.Number, shown(s.Text), len(s.Text), ok, server, number, shown(want.Text), len(want.Text))
	}
}

func nothing(t *testing.T, b box, times ...int64) {
	t.Helper()
	for _, now := range times {
		if s, ok := b.Next(now); ok || s != (send{}) {
			t.Errorf("Next(%d): %q, %d, %s, %v, not nothing", now, s.Server, s.Number, shown(s.Text), ok)
		}
	}
}

func done(t *testing.T, b box, server string, number int, now int64, ok bool, want api.Errno) {
	t.Helper()
	if e := b.Done(server, number, now, ok); e != want {
		t.Errorf("Done(%q, %d, %d, %v): %d, not %d", server, number, now, ok, e, want)
	}
}

func waits(t *testing.T, b box, server string, wantPdus, wantEdus int) {
	t.Helper()
	if p, q := b.Waits(server); p != wantPdus || q != wantEdus {
		t.Errorf("Waits(%q): %d, %d, not %d, %d", server, p, q, wantPdus, wantEdus)
	}
}

func due(t *testing.T, b box, server string, want int64) {
	t.Helper()
	if at, ok := b.Due(server); at != want || !ok {
		t.Errorf("Due(%q): %d, %v, not %d", server, at, ok, want)
	}
}

// unknown asks that nothing ever waited for a server.
func unknown(t *testing.T, b box, servers ...string) {
	t.Helper()
	for _, server := range servers {
		waits(t, b, server, 0, 0)
		if at, ok := b.Due(server); at != 0 || ok {
			t.Errorf("Due(%q): %d, %v", server, at, ok)
		}
	}
}

func TestP55_1New(t *testing.T) {
	for v := 1; v <= 11; v++ {
		for _, origin := range []string{"a.b", "a", "c:1", "1.2.3.4:65535", "[::1]", strings.Repeat("a", 63)} {
			b := newBox(t, v, origin)
			unknown(t, b, "", origin, "a.b", "c.d")
			nothing(t, b, 0, 1, api.MaxInt)
			done(t, b, origin, 0, 0, true, api.ErrNone)
		}
		for want, l := range map[api.Errno][]string{
			api.ErrName: {"", "a..b", "a.b:0", "a b", "a.b:65536", "1.2.3", "[::", "\u00e9", "@a:b"},
			api.ErrLong: {strings.Repeat("a", 231), strings.Repeat(".", 300)},
			api.ErrText: {"\xff", "a.b\xff", strings.Repeat("\xff", 300)},
		} {
			for _, origin := range l {
				if b, e := outbox.New(v, origin); b != nil || e != want {
					t.Errorf("New(%d, %q): %v, %d, not %d", v, origin, b, e, want)
				}
			}
		}
	}
	for _, v := range noVersions {
		for _, origin := range []string{"a.b", "", "a..b", "\xff"} {
			if b, e := outbox.New(v, origin); b != nil || e != api.ErrVersion {
				t.Errorf("New(%d, %q): %v, %d", v, origin, b, e)
			}
		}
	}
}

func TestP55_1WhatWaits(t *testing.T) {
	for v := 1; v <= 11; v++ {
		b := newBox(t, v, "o.p")
		pdus(t, b, "a.b", event(v, 1))
		waits(t, b, "a.b", 1, 0)
		edus(t, b, "a.b", edu("x", 1), edu("x", 1))
		waits(t, b, "a.b", 1, 2)
		edus(t, b, "A.b", edu("x", 1))
		pdus(t, b, "a.b:80", event(v, 1), event(v, 1))
		waits(t, b, "a.b", 1, 2)
		waits(t, b, "A.b", 0, 1)
		waits(t, b, "a.b:80", 2, 0)
		edus(t, b, "o.p", edu("x", 1)) // a server may send to itself
		for _, server := range []string{"a.b", "A.b", "a.b:80", "o.p"} {
			due(t, b, server, 0)
		}
		unknown(t, b, "", "b", "a.b:8", "a.b ", "A.B", "a.B", "a.b:080", "\xff")
	}
}

// badServers are no servers, by the error.
func badServers() map[api.Errno][]string {
	return map[api.Errno][]string{
		api.ErrName: {"", "a..b", "a.b:0", ".", "a.b:", "\xff", "a b", "[1::2::3]"},
		api.ErrLong: {strings.Repeat("a", 231), strings.Repeat("\xff", 1000)},
	}
}

// badPdus are events that can't be sent, by the error.
func badPdus(v int) map[api.Errno][]node {
	n := event(v, 1)
	deep := tree.Null()
	for range 60 {
		deep = tree.List(deep)
	}
	l := map[api.Errno][]node{
		api.ErrKind:  {{}, tree.Put(n, "x", node{Kind: 7})},
		api.ErrText:  {tree.Text("\xff"), tree.Put(n, "x", tree.Text("\xff"))},
		api.ErrType:  {tree.Null(), tree.Int(1), tree.List(n), tree.Put(n, "sender", tree.Null())},
		api.ErrField: {tree.Map(), tree.Without(n, "depth"), edu("x", 1)},
		api.ErrRange: {tree.Put(n, "depth", tree.Int(-1)), tree.Int(1 << 53)},
		api.ErrBig:   {event(v, 65536), event(v, 300000)},
		api.ErrDeep:  {tree.Put(n, "content", tree.Map(tree.Text("x"), deep))},
	}
	if !isOwn(v) {
		l[api.ErrMore] = []node{tree.Put(n, "event_id", tree.Text("$e:a.b"))}
	}
	return l
}

// badEdus are short-lived events that can't be sent, by the error.
func badEdus() map[api.Errno][]node {
	return map[api.Errno][]node{
		api.ErrKind:  {{}},
		api.ErrText:  {tree.Text("\xff")},
		api.ErrType:  {tree.Null(), tree.List(), tree.Put(edu("x", 1), "content", tree.List())},
		api.ErrField: {tree.Map(), tree.Without(edu("x", 1), "content"), event(3, 1)},
		api.ErrShort: {edu("", 1)},
		api.ErrLong:  {edu(strings.Repeat("x", 256), 1), edu("x", 262144)},
	}
}

// refuses asks both calls for the errors of what is handed in, which changes nothing.
func refuses(t *testing.T, b box, server string, pdu, edu node, wantPdu, wantEdu api.Errno) {
	t.Helper()
	p, q := b.Waits(server)
	if e := b.Pdu(server, pdu); e != wantPdu {
		t.Errorf("Pdu(%q, %+v): %d, not %d", server, pdu, e, wantPdu)
	}
	if e := b.Edu(server, edu); e != wantEdu {
		t.Errorf("Edu(%q, %+v): %d, not %d", server, edu, e, wantEdu)
	}
	waits(t, b, server, p, q)
}

func TestP55_1WhatIsRefused(t *testing.T) {
	for v := 1; v <= 11; v++ {
		b := newBox(t, v, "o.p")
		for want, l := range badServers() {
			for _, server := range l {
				refuses(t, b, server, event(v, 1), edu("x", 1), want, want)
				refuses(t, b, server, node{}, tree.Null(), want, want)
				unknown(t, b, server)
			}
		}
		for want, l := range badPdus(v) {
			for _, n := range l {
				refuses(t, b, "a.b", n, edu("", 1), want, api.ErrShort)
			}
		}
		for want, l := range badEdus() {
			for _, n := range l {
				refuses(t, b, "a.b", tree.Null(), n, api.ErrType, want)
			}
		}
		unknown(t, b, "a.b")
		nothing(t, b, 0, 5)
		// What is refused isn't among what waits.
		p, q := event(v, 1), edu("x", 1)
		pdus(t, b, "a.b", p)
		refuses(t, b, "a.b", tree.Null(), edu("", 1), api.ErrType, api.ErrShort)
		edus(t, b, "a.b", q)
		refuses(t, b, "a.b", tree.Map(), tree.Map(), api.ErrField, api.ErrField)
		sends(t, b, 0, "a.b", 0, txn{Origin: "o.p", Pdus: []node{p}, Edus: []node{q}})
	}
}

// How long an Edu may be hangs on the origin, and on the time 0.
func TestP55_1HowLong(t *testing.T) {
	for _, origin := range []string{"o.p", "longer.than.that:8448"} {
		left := api.MaxTxn - len(formOf(t, txn{Origin: origin, Edus: []node{edu("x", 0)}}))
		b := newBox(t, 3, origin)
		edus(t, b, "a.b", edu("x", left-1), edu("x", left))
		refuses(t, b, "a.b", tree.Null(), edu("x", left+1), api.ErrType, api.ErrLong)
		sends(t, b, 9, "a.b", 0, txn{Origin: origin, Edus: []node{edu("x", left-1)}})
	}
}

func TestP55_1HowMany(t *testing.T) {
	p, q := row(event(4, 1), 201), row(edu("x", 1), 201)
	b := newBox(t, 4, "o.p")
	pdus(t, b, "a.b", p[:199]...)
	edus(t, b, "a.b", q[:100]...)
	pdus(t, b, "a.b", p[199])
	refuses(t, b, "a.b", p[200], tree.Null(), api.ErrFull, api.ErrType)
	waits(t, b, "a.b", 200, 100)
	edus(t, b, "a.b", q[100:200]...)
	refuses(t, b, "a.b", p[200], q[200], api.ErrFull, api.ErrFull)
	waits(t, b, "a.b", 200, 200)
	// What is wrong with it is told ahead of that.
	refuses(t, b, "a.b", tree.Null(), edu("", 1), api.ErrType, api.ErrShort)
	// Each server by itself.
	pdus(t, b, "a.c", p[:3]...)
	edus(t, b, "a.c", q[:2]...)
	waits(t, b, "a.c", 3, 2)
	// What is under way waits further; what got there doesn't.
	sends(t, b, 1, "a.b", 0, txn{Origin: "o.p", Pdus: p[:50]})
	refuses(t, b, "a.b", p[200], q[200], api.ErrFull, api.ErrFull)
	done(t, b, "a.b", 0, 1, false, api.OK)
	refuses(t, b, "a.b", p[200], q[200], api.ErrFull, api.ErrFull)
	sends(t, b, 2, "a.b", 0, txn{Origin: "o.p", Pdus: p[:50]})
	done(t, b, "a.b", 0, 2, true, api.OK)
	waits(t, b, "a.b", 150, 200)
	refuses(t, b, "a.b", tree.Null(), q[200], api.ErrType, api.ErrFull)
	pdus(t, b, "a.b", p[:50]...)
	refuses(t, b, "a.b", p[50], q[200], api.ErrFull, api.ErrFull)
}

func TestP55_2Next(t *testing.T) {
	for v := 1; v <= 11; v++ {
		b, p, q := newBox(t, v, "o.p:80"), row(event(v, 3), 3), row(edu("x", 3), 3)
		edus(t, b, "a.b", q[0])
		pdus(t, b, "a.b", p[0])
		edus(t, b, "a.b", q[1])
		pdus(t, b, "a.b", p[1])
		sends(t, b, 5, "a.b", 0, txn{Origin: "o.p:80", Pdus: p[:2], Edus: q[:2]})
		nothing(t, b, 5, 6, 0, api.MaxInt)
		edus(t, b, "a.b", q[2])
		nothing(t, b, 5, 6) // as something is under way to it
		waits(t, b, "a.b", 2, 3)
		due(t, b, "a.b", 0)
		done(t, b, "a.b", 0, 7, true, api.OK)
		waits(t, b, "a.b", 0, 1)
		due(t, b, "a.b", 7)
		nothing(t, b, 6, 0)
		sends(t, b, 7, "a.b", 1, txn{Origin: "o.p:80", Edus: q[2:]})
		done(t, b, "a.b", 1, 7, true, api.OK)
		nothing(t, b, 7, 8) // as nothing waits
		due(t, b, "a.b", 7)
		pdus(t, b, "a.b", p[2])
		sends(t, b, 8, "a.b", 2, txn{Origin: "o.p:80", Pdus: p[2:]})
	}
}

func TestP55_2Times(t *testing.T) {
	for _, now := range []int64{0, 1, 1 << 32, last, last + 1, api.MaxInt - 1, api.MaxInt} {
		b, n := newBox(t, 3, "o.p"), edu("x", 1)
		edus(t, b, "a.b", n)
		nothing(t, b, -1, math.MinInt64, api.MaxInt+1, math.MaxInt64, -now-1)
		sends(t, b, now, "a.b", 0, txn{Origin: "o.p", Edus: []node{n}})
	}
}

// Servers stand byte by byte, whatever order they came in.
func TestP55_2WhichServer(t *testing.T) {
	servers := []string{"1.2.3.4", "1.2.3.4:1", "A", "B", "Z.z", "[::1]", "[::]", "a", "a-b", "a.b", "a.b:1", "a.b:10", "a.b:9", "a.ba", "aa", "b"}
	r := rand.New(rand.NewSource(552))
	for v := 1; v <= 11; v++ {
		b, n := newBox(t, v, "o.p"), edu("x", 1)
		for _, i := range r.Perm(len(servers)) {
			edus(t, b, servers[i], numbered(n, i))
		}
		for i, server := range servers {
			sends(t, b, int64(i), server, 0, txn{Origin: "o.p", Edus: []node{numbered(n, i)}})
		}
		nothing(t, b, 99)
	}
}

// A server that isn't due, has something under way, or nothing that waits, lets the others go first.
func TestP55_2WhoseTurn(t *testing.T) {
	b, n := newBox(t, 3, "o.p"), edu("x", 1)
	x := txn{Origin: "o.p", Edus: []node{n}}
	for _, server := range []string{"c", "a", "b"} {
		edus(t, b, server, n)
	}
	sends(t, b, 1, "a", 0, x)
	done(t, b, "a", 0, 10, false, api.OK)
	sends(t, b, 10, "b", 0, x)
	done(t, b, "b", 0, 20, true, api.OK)
	edus(t, b, "b", n)
	sends(t, b, 10, "c", 0, x)
	nothing(t, b, 0, 10)
	sends(t, b, 11, "a", 0, x)
	nothing(t, b, 11, 19)
	done(t, b, "a", 0, 12, true, api.OK)
	nothing(t, b, 19)
	done(t, b, "c", 0, 12, false, api.OK)
	nothing(t, b, 12)
	sends(t, b, 20, "b", 1, x)
	sends(t, b, 20, "c", 0, x)
	nothing(t, b, 20)
}

func TestP55_2TheFirstTransaction(t *testing.T) {
	for _, v := range []int{1, 3, 11} {
		p, q := row(event(v, 1), 120), row(edu("x", 1), 130)
		b := newBox(t, v, "o.p")
		edus(t, b, "a.b", q...)
		pdus(t, b, "a.b", p...)
		want := []txn{{Pdus: p[:50]}, {Pdus: p[50:100]}, {Pdus: p[100:], Edus: q[:100]}, {Edus: q[100:]}}
		for i, x := range want {
			x.Origin = "o.p"
			sends(t, b, int64(i), "a.b", i, x)
			done(t, b, "a.b", i, int64(i), true, api.OK)
		}
		waits(t, b, "a.b", 0, 0)
		// By their lengths, to the byte, with the time that is now.
		pdus(t, b, "a.b", many(event(v, 60000), 4)...)
		left := api.MaxTxn - len(formOf(t, txn{Origin: "o.p", TS: 123456, Pdus: append(many(event(v, 60000), 4), event(v, 0))}))
		pdus(t, b, "a.b", event(v, left))
		edus(t, b, "a.b", edu("x", 0))
		all := append(many(event(v, 60000), 4), event(v, left))
		sends(t, b, 123456, "a.b", 4, txn{Origin: "o.p", Pdus: all})
		done(t, b, "a.b", 4, 123456, false, api.OK)
		sends(t, b, 1234567, "a.b", 4, txn{Origin: "o.p", Pdus: all[:4]})
		waits(t, b, "a.b", 5, 1)
		done(t, b, "a.b", 4, 0, true, api.OK)
		waits(t, b, "a.b", 1, 1)
		sends(t, b, 1234567, "a.b", 5, txn{Origin: "o.p", Pdus: all[4:], Edus: []node{edu("x", 0)}})
	}
}

// What was not too long at 0 may be so later: then nothing goes to its server, be it behind what else waits.
func TestP55_2WhoIsPassedOver(t *testing.T) {
	left := api.MaxTxn - len(formOf(t, txn{Origin: "o.p", Edus: []node{edu("x", 0)}}))
	short, long := edu("x", 1), edu("x", left)
	b := newBox(t, 3, "o.p")
	edus(t, b, "a", long)
	edus(t, b, "b", short, long)
	nothing(t, b, 10, api.MaxInt)
	edus(t, b, "c", short)
	sends(t, b, 10, "c", 0, txn{Origin: "o.p", Edus: []node{short}})
	nothing(t, b, 10)
	waits(t, b, "a", 0, 1)
	waits(t, b, "b", 0, 2)
	due(t, b, "a", 0)
	done(t, b, "a", 0, 10, true, api.ErrNone)
	sends(t, b, 9, "a", 0, txn{Origin: "o.p", Edus: []node{long}})
	sends(t, b, 9, "b", 0, txn{Origin: "o.p", Edus: []node{short}})
	done(t, b, "b", 0, 0, true, api.OK)
	nothing(t, b, 10)
	sends(t, b, 9, "b", 1, txn{Origin: "o.p", Edus: []node{long}})
}

func TestP55_3DoneOfNothing(t *testing.T) {
	b, n := newBox(t, 3, "o.p"), edu("x", 1)
	none := func(server string, number int) {
		t.Helper()
		for _, now := range []int64{0, 5, last, -1, last + 1, math.MinInt64, math.MaxInt64} {
			done(t, b, server, number, now, true, api.ErrNone)
			done(t, b, server, number, now, false, api.ErrNone)
		}
	}
	none("a.b", 0)
	edus(t, b, "a.b", n)
	none("a.b", 0)
	sends(t, b, 1, "a.b", 0, txn{Origin: "o.p", Edus: []node{n}})
	for _, number := range []int{1, -1, 2, math.MinInt, math.MaxInt, 1 << 32} {
		none("a.b", number)
	}
	for _, server := range []string{"", "a", "A.b", "a.b:80", "o.p"} {
		none(server, 0)
		unknown(t, b, server)
	}
	due(t, b, "a.b", 0)
	waits(t, b, "a.b", 0, 1)
	done(t, b, "a.b", 0, 3, true, api.OK)
	none("a.b", 0)
	none("a.b", 1)
	edus(t, b, "a.b", n)
	none("a.b", 0)
	none("a.b", 1)
	sends(t, b, 3, "a.b", 1, txn{Origin: "o.p", Edus: []node{n}})
	none("a.b", 0)
	none("a.b", 2)
	done(t, b, "a.b", 1, 4, false, api.OK)
	none("a.b", 1)
	due(t, b, "a.b", 5)
	waits(t, b, "a.b", 0, 1)
}

func TestP55_3DoneWhen(t *testing.T) {
	for _, ok := range []bool{false, true} {
		for _, now := range []int64{0, 1, 1 << 40, last - 1, last} {
			b, n := newBox(t, 3, "o.p"), edu("x", 1)
			edus(t, b, "a.b", n, n)
			sends(t, b, 1, "a.b", 0, txn{Origin: "o.p", Edus: []node{n, n}})
			for _, bad := range []int64{-1, -5, last + 1, api.MaxInt, math.MinInt64, math.MaxInt64} {
				done(t, b, "a.b", 0, bad, ok, api.ErrRange)
				done(t, b, "a.b", 0, bad, !ok, api.ErrRange)
				due(t, b, "a.b", 0)
				waits(t, b, "a.b", 0, 2)
				nothing(t, b, 1)
			}
			done(t, b, "a.b", 0, now, ok, api.OK)
			if ok {
				due(t, b, "a.b", now)
				waits(t, b, "a.b", 0, 0)
			} else {
				due(t, b, "a.b", now+1)
				waits(t, b, "a.b", 0, 2)
			}
		}
	}
}

// A server is waited for twice as long each time, up to 64; then, once something got there, anew.
func TestP55_3HowLongItWaits(t *testing.T) {
	b, n := newBox(t, 3, "o.p"), edu("x", 1)
	edus(t, b, "a.b", slices.Repeat([]node{n}, 100)...)
	edus(t, b, "c", n)
	for number := range 3 {
		now, x := int64(1000*number), txn{Origin: "o.p", Edus: many(n, 100)}
		for _, wait := range []int64{1, 2, 4, 8, 16, 32, 64, 64, 64, 64}[:10-3*number] {
			sends(t, b, now, "a.b", number, x)
			done(t, b, "a.b", number, now+3, false, api.OK)
			now += 3 + wait
			due(t, b, "a.b", now)
			due(t, b, "c", 0) // that of others doesn't double
		}
		sends(t, b, now, "a.b", number, x)
		done(t, b, "a.b", number, now, true, api.OK)
		due(t, b, "a.b", now)
		waits(t, b, "a.b", 0, 0)
		edus(t, b, "a.b", x.Edus...)
	}
	sends(t, b, 9999, "a.b", 3, txn{Origin: "o.p", Edus: many(n, 100)})
	sends(t, b, 9999, "c", 0, txn{Origin: "o.p", Edus: []node{n}})
	done(t, b, "c", 0, 9999, false, api.OK)
	due(t, b, "c", 10000)
}

// A time may lie ahead of one that was told earlier.
func TestP55_3TimesGoBack(t *testing.T) {
	b, n := newBox(t, 3, "o.p"), edu("x", 1)
	x := txn{Origin: "o.p", Edus: []node{n}}
	edus(t, b, "a.b", n)
	sends(t, b, 100, "a.b", 0, x)
	done(t, b, "a.b", 0, 50, false, api.OK)
	nothing(t, b, 50)
	sends(t, b, 51, "a.b", 0, x)
	done(t, b, "a.b", 0, 0, false, api.OK)
	due(t, b, "a.b", 2)
	sends(t, b, 2, "a.b", 0, x)
	done(t, b, "a.b", 0, last, false, api.OK)
	due(t, b, "a.b", last+4)
	nothing(t, b, last, last+3)
	sends(t, b, last+4, "a.b", 0, x)
	done(t, b, "a.b", 0, 7, true, api.OK)
	due(t, b, "a.b", 7)
	edus(t, b, "a.b", n)
	nothing(t, b, 6)
	sends(t, b, 7, "a.b", 1, x)
}

// What comes while something is under way waits behind that, and stays when that got there.
func TestP55_3WhatComesMeanwhile(t *testing.T) {
	for v := 1; v <= 11; v++ {
		p, q := row(event(v, 2), 4), row(edu("x", 2), 4)
		b := newBox(t, v, "o.p")
		pdus(t, b, "a.b", p[0])
		edus(t, b, "a.b", q[0])
		sends(t, b, 1, "a.b", 0, txn{Origin: "o.p", Pdus: p[:1], Edus: q[:1]})
		edus(t, b, "a.b", q[1])
		pdus(t, b, "a.b", p[1])
		waits(t, b, "a.b", 2, 2)
		done(t, b, "a.b", 0, 1, false, api.OK)
		waits(t, b, "a.b", 2, 2)
		// What is sent anew is of what waits then.
		sends(t, b, 2, "a.b", 0, txn{Origin: "o.p", Pdus: p[:2], Edus: q[:2]})
		edus(t, b, "a.b", q[2:]...)
		pdus(t, b, "a.b", p[2])
		waits(t, b, "a.b", 3, 4)
		done(t, b, "a.b", 0, 2, true, api.OK)
		waits(t, b, "a.b", 1, 2)
		pdus(t, b, "a.b", p[3])
		sends(t, b, 2, "a.b", 1, txn{Origin: "o.p", Pdus: p[2:], Edus: q[2:]})
	}
}

func TestP55_4NilBox(t *testing.T) {
	var b box
	for _, server := range []string{"a.b", "", "a..b"} {
		refuses(t, b, server, event(3, 1), edu("x", 1), api.ErrArg, api.ErrArg)
		refuses(t, b, server, node{}, node{}, api.ErrArg, api.ErrArg)
		done(t, b, server, 0, 0, true, api.ErrArg)
		done(t, b, server, -1, -1, false, api.ErrArg)
		unknown(t, b, server)
	}
	nothing(t, b, 0, 5, -1, api.MaxInt)
}

// queue is what waits for a server, by the chapter's words.
type queue struct {
	pdus, edus []node
	under      bool
	sentPdus   int // how many are under way
	sentEdus   int
	number     int
	due, wait  int64
	got        txn // all that got there
}

// first is how many are in the first transaction, each form written anew.
func (q *queue) first(t *testing.T, now int64) (int, int) {
	t.Helper()
	fits := func(p, e int) bool {
		return p <= 50 && e <= 100 && len(formOf(t, txn{Origin: "o.p", TS: now, Pdus: q.pdus[:p], Edus: q.edus[:e]})) <= 262144
	}
	p := sort.Search(len(q.pdus), func(i int) bool { return !fits(i+1, 0) })
	if p < len(q.pdus) {
		return p, 0
	}
	return p, sort.Search(len(q.edus), func(i int) bool { return !fits(p, i+1) })
}

// next is which server is the next one.
func next(l map[string]*queue, now int64) (string, bool) {
	found, ok := "", false
	for server, q := range l {
		if len(q.pdus)+len(q.edus) > 0 && !q.under && q.due <= now && (!ok || server < found) {
			found, ok = server, true
		}
	}
	return found, ok
}

func (q *queue) done(now int64, ok bool) {
	q.under = false
	if !ok {
		q.due, q.wait = now+q.wait, min(64, q.wait+q.wait)
		return
	}
	q.got.Pdus = append(q.got.Pdus, q.pdus[:q.sentPdus]...)
	q.got.Edus = append(q.got.Edus, q.edus[:q.sentEdus]...)
	q.pdus, q.edus = q.pdus[q.sentPdus:], q.edus[q.sentEdus:]
	q.number, q.due, q.wait = q.number+1, now, 1
}

// run is a box beside its reckoning, and what got to each server.
type run struct {
	b       box
	v       int
	rnd     *rand.Rand
	l       map[string]*queue
	now     int64
	number  int
	arrived map[string][]txn
}

// comes puts some events into the box.
func (x *run) comes(t *testing.T, server string) {
	t.Helper()
	q := x.l[server]
	if q == nil {
		q = &queue{wait: 1}
		x.l[server] = q
	}
	for range 1 + x.rnd.Intn(60) {
		x.number++
		size := x.rnd.Intn([]int{3, 300, 3000, 50000}[x.rnd.Intn(4)])
		list, put, n := &q.pdus, x.b.Pdu, numbered(event(x.v, size), x.number)
		if x.rnd.Intn(2) == 0 {
			list, put, n = &q.edus, x.b.Edu, numbered(edu("x", size), x.number)
		}
		want := api.OK
		if len(*list) == 200 {
			want = api.ErrFull
		} else {
			*list = append(*list, n)
		}
		if e := put(server, n); e != want {
			t.Errorf("%q: %d, not %d", server, e, want)
		}
	}
}

// goes sends what is next.
func (x *run) goes(t *testing.T) {
	t.Helper()
	server, ok := next(x.l, x.now)
	if !ok {
		nothing(t, x.b, x.now)
		return
	}
	q := x.l[server]
	q.sentPdus, q.sentEdus = q.first(t, x.now)
	q.under = true
	sends(t, x.b, x.now, server, q.number, txn{Origin: "o.p", Pdus: q.pdus[:q.sentPdus], Edus: q.edus[:q.sentEdus]})
}

// ends tells what became of something, be it under way or not.
func (x *run) ends(t *testing.T, server string) {
	t.Helper()
	q, ok := x.l[server], x.rnd.Intn(2) == 0
	if q == nil || !q.under {
		done(t, x.b, server, 0, x.now, ok, api.ErrNone)
		return
	}
	done(t, x.b, server, q.number+1, x.now, ok, api.ErrNone)
	done(t, x.b, server, q.number, x.now, ok, api.OK)
	if ok {
		x.arrived[server] = append(x.arrived[server], txn{Pdus: q.pdus[:q.sentPdus], Edus: q.edus[:q.sentEdus]})
	}
	q.done(x.now, ok)
}

// Boxes do what the reckoning does, whatever comes.
func TestP55_5AnyBoxes(t *testing.T) {
	rnd := rand.New(rand.NewSource(555))
	got := 0
	for _, v := range []int{1, 2, 3, 7, 11} {
		x := &run{newBox(t, v, "o.p"), v, rnd, map[string]*queue{}, 0, 0, map[string][]txn{}}
		servers := []string{"a.b", "a.b:1", "B"}
		for range 150 {
			server := servers[rnd.Intn(3)]
			x.now = max(0, x.now+rnd.Int63n(7)-1)
			switch rnd.Intn(10) {
			case 0:
				x.comes(t, server)
			case 1, 2, 3, 4:
				x.goes(t)
			default:
				x.ends(t, server)
			}
			for _, server := range servers {
				if q := x.l[server]; q != nil {
					waits(t, x.b, server, len(q.pdus), len(q.edus))
					due(t, x.b, server, q.due)
				} else {
					unknown(t, x.b, server)
				}
			}
		}
		for server, l := range x.arrived {
			got += len(l)
			if all := batch.Join(l...); !tree.Exact(tree.List(all.Pdus...), tree.List(x.l[server].got.Pdus...)) || !tree.Exact(tree.List(all.Edus...), tree.List(x.l[server].got.Edus...)) {
				t.Errorf("other ones got to %q", server)
			}
		}
	}
	if got < 50 {
		t.Error(got)
	}
}

// sent sends all that waits for a server, of which each third one doesn't get there at first, and tells what got there.
func sent(t *testing.T, b box, v int, server string) []txn {
	t.Helper()
	var l []txn
	now := int64(0)
	for try := 1; ; try++ {
		s, ok := b.Next(now)
		if !ok {
			return l
		}
		r, _, e := decode.Decode(v, nil, s.Text)
		if s.Server != server || s.Number != len(l) || e != api.OK || r.Txn.TS != now || r.Txn.Origin != "o.p" {
			t.Errorf("%q, %d: %d", s.Server, s.Number, e)
		}
		if text, _, _ := encode.Encode(v, r.Txn); text != s.Text {
			t.Errorf("no transaction's text: %s", shown(s.Text))
		}
		if done(t, b, server, s.Number, now, try%3 != 0, api.OK); try%3 != 0 {
			l = append(l, r.Txn)
		} else {
			now++
		}
	}
}

// What waits is sent in order, each once for each ok.
func TestP55_5InOrder(t *testing.T) {
	r := rand.New(rand.NewSource(5))
	for _, v := range []int{1, 3, 11} {
		b := newBox(t, v, "o.p")
		var p, q []node
		for i := range 70 + r.Intn(131) {
			p = append(p, numbered(event(v, r.Intn(8000)), i))
			pdus(t, b, "a.b", p[i])
		}
		for i := range 100 + r.Intn(101) {
			q = append(q, numbered(edu("x", r.Intn(8000)), i))
			edus(t, b, "a.b", q[i])
		}
		l := sent(t, b, v, "a.b")
		all := batch.Join(l...)
		if !slices.EqualFunc(all.Pdus, p, tree.Same) || !slices.EqualFunc(all.Edus, q, tree.Same) || len(l) < 4 {
			t.Errorf("%d and %d in %d, not %d and %d", len(all.Pdus), len(all.Edus), len(l), len(p), len(q))
		}
		waits(t, b, "a.b", 0, 0)
	}
}

// spoil writes into all lists of a node.
func spoil(n node) {
	for i := range n.L {
		spoil(n.L[i])
		n.L[i] = tree.Int(666)
	}
	for i := range n.K {
		n.K[i] = "spoilt"
	}
}

// parsed is a node by itself, whose lists are its own.
func parsed(n node) node {
	n.K, n.L = slices.Clone(n.K), slices.Clone(n.L)
	for i := range n.L {
		n.L[i] = parsed(n.L[i])
	}
	return n
}

func TestP55WhatIsHandedInIsNotChangedNorKept(t *testing.T) {
	for v := 1; v <= 11; v++ {
		b := newBox(t, v, "o.p")
		p := tree.Put(event(v, 1), "unsigned", tree.Map(tree.Text("l"), tree.List(tree.Int(1), tree.List(tree.Map(tree.Text("k"), tree.Int(2))))))
		q := tree.Put(edu("x", 1), "l", tree.List(tree.Int(1), tree.Map(tree.Text("k"), tree.Int(2))))
		x, y := parsed(p), parsed(q)
		pdus(t, b, "a.b", x)
		edus(t, b, "a.b", y)
		if !tree.Exact(x, p) || !tree.Exact(y, q) {
			t.Errorf("%+v, %+v", x, y)
		}
		spoil(x)
		spoil(y)
		sends(t, b, 1, "a.b", 0, txn{Origin: "o.p", Pdus: []node{p}, Edus: []node{q}})
	}
}

// One box doesn't tell on another one.
func TestP55BoxesByThemselves(t *testing.T) {
	a, b, c := newBox(t, 3, "o.p"), newBox(t, 3, "o.p"), newBox(t, 1, "q.r")
	n := edu("x", 1)
	edus(t, a, "a.b", n)
	unknown(t, b, "a.b")
	nothing(t, b, 1)
	edus(t, b, "a.b", n)
	edus(t, c, "a.b", n, n)
	sends(t, a, 1, "a.b", 0, txn{Origin: "o.p", Edus: []node{n}})
	done(t, b, "a.b", 0, 1, true, api.ErrNone)
	sends(t, c, 1, "a.b", 0, txn{Origin: "q.r", Edus: []node{n, n}})
	done(t, a, "a.b", 0, 1, false, api.OK)
	due(t, c, "a.b", 0)
	sends(t, b, 0, "a.b", 0, txn{Origin: "o.p", Edus: []node{n}})
}

func TestP7EveryCallEnds(t *testing.T) {
	deep := tree.Null()
	for range 100000 {
		deep = tree.List(deep)
	}
	for i := range 64 {
		for _, v := range []int{3, 1 << i, 1<<i - 1, -1 << i, i} {
			b, _ := outbox.New(v, "a.b"[:i%4])
			for kind := -1; kind < 8; kind++ {
				n := node{Kind: kind, N: int64(v), S: "\xff"[:i%2], K: []string{"a", "a"}[:i%3], L: make([]node, i%4)}
				for _, n := range []node{n, deep, {Kind: kind, L: []node{deep}}, edu("x", i)} {
					b.Pdu("a.b"[:i%4], n)
					b.Edu("a.b"[:i%4], n)
				}
				b.Next(int64(v))
				b.Done("a", kind, int64(v), i%2 == 0)
				b.Waits(n.S)
				b.Due(n.S)
			}
		}
	}
}
