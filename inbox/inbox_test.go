package inbox_test

import (
	"bytes"
	"crypto/ed25519"
	"crypto/sha256"
	"encoding/base64"
	"encoding/json"
	"maps"
	"math"
	"math/rand"
	"slices"
	"strconv"
	"strings"
	"testing"

	"sealring/api"
	"sealring/decode"
	"sealring/inbox"
	"sealring/keyring"
	"sealring/parse"
	"sealring/tree"
)

type (
	node   = api.Node
	answer = inbox.Answer
	fields = map[string]any
	list   = []any
)

var noVersions = []int{0, -1, 12, 13, 100, math.MinInt, math.MaxInt}

func isOwn(v int) bool { return v <= 2 }

// form is a value's one form, by the library's means.
func form(t *testing.T, value any) string {
	t.Helper()
	var b bytes.Buffer
	w := json.NewEncoder(&b)
	w.SetEscapeHTML(false)
	if e := w.Encode(value); e != nil {
		t.Fatal(e)
	}
	return strings.TrimSuffix(b.String(), "\n")
}

func read(t *testing.T, s string) node {
	t.Helper()
	n, _, e := parse.Parse(s)
	if e != api.OK {
		t.Fatalf("%s: %d", s, e)
	}
	return n
}

func with(m fields, key string, value any) fields {
	m = maps.Clone(m)
	m[key] = value
	return m
}

func without(m fields, keys ...string) fields {
	m = maps.Clone(m)
	for _, key := range keys {
		delete(m, key)
	}
	return m
}

// key is the one by which events are signed here, by the library's means.
func key() ed25519.PrivateKey { return ed25519.NewKeyFromSeed(bytes.Repeat([]byte{5}, 32)) }

func base64Of(b []byte) string { return base64.RawStdEncoding.EncodeToString(b) }

// put puts the key into a ring.
func put(t *testing.T, r *keyring.Ring) {
	t.Helper()
	if e := r.Put("a.b", "ed25519:1", string(key().Public().(ed25519.PublicKey))); e != api.OK {
		t.Fatal(e)
	}
}

func ringOf(t *testing.T) *keyring.Ring {
	t.Helper()
	r := keyring.New()
	put(t, r)
	return r
}

// kept is what each version keeps of an event of a type that it doesn't know.
func kept(v int, m fields) fields {
	m = without(m, "unsigned", "body")
	if v >= 11 {
		m = without(m, "origin")
	}
	return with(m, "content", fields{})
}

// idOf is an event's ID, by the library's means.
func idOf(t *testing.T, v int, m fields) string {
	t.Helper()
	if isOwn(v) {
		return m["event_id"].(string)
	}
	hash := sha256.Sum256([]byte(form(t, without(kept(v, m), "signatures"))))
	if v == 3 {
		return "$" + base64Of(hash[:])
	}
	return "$" + base64.RawURLEncoding.EncodeToString(hash[:])
}

// whole is an event that passes as it is; those of other numbers are other ones.
func whole(t *testing.T, v, number int) fields {
	t.Helper()
	m := fields{
		"type": "x", "room_id": "!r:o", "sender": "@s:a.b", "depth": number, "origin_server_ts": 8, "origin": "o", "unsigned": fields{"age": 1}, "body": "<\u00e9>",
		"content": fields{"n": number}, "prev_events": list{}, "auth_events": list{},
	}
	if isOwn(v) {
		m["event_id"] = "$" + strconv.Itoa(number) + ":a.b"
	}
	hash := sha256.Sum256([]byte(form(t, without(m, "unsigned"))))
	m["hashes"] = fields{"sha256": base64Of(hash[:])}
	signature := ed25519.Sign(key(), []byte(form(t, kept(v, m))))
	return with(m, "signatures", fields{"a.b": fields{"ed25519:1": base64Of(signature)}})
}

// textOf is a transaction, by the library's means.
func textOf(t *testing.T, origin string, pdus ...any) string {
	t.Helper()
	return form(t, fields{"origin": origin, "origin_server_ts": 7, "pdus": append(list{}, pdus...), "edus": list{fields{"edu_type": "x", "content": fields{}}}})
}

// some is a transaction of an event that passes, one that is redacted, one that isn't signed and one that is none, and what it comes to.
func some(t *testing.T, v int, origin string, number int) (string, answer) {
	t.Helper()
	m := whole(t, v, number)
	other, unsigned := with(m, "body", "b"), with(m, "signatures", fields{})
	id := idOf(t, v, m)
	return textOf(t, origin, m, unsigned, other, nil), answer{
		Verdicts: []api.Verdict{{ID: id}, {ID: id, Err: api.ErrNone}, {ID: id, Redacted: true}, {Err: api.ErrType}},
		Kept:     []node{read(t, form(t, m)), read(t, form(t, kept(v, other)))},
	}
}

func newBox(t *testing.T, v int, ring *keyring.Ring, room int) *inbox.Box {
	t.Helper()
	b, e := inbox.New(v, ring, room)
	if b == nil || e != api.OK || b.Len() != 0 {
		t.Fatal(v, room, e)
	}
	return b
}

// old is an answer that is told again.
func old(x answer) answer {
	x.Old = true
	return x
}

func sameAnswer(a, b answer) bool {
	return a.Old == b.Old && slices.Equal(a.Verdicts, b.Verdicts) && slices.EqualFunc(a.Kept, b.Kept, tree.Same)
}

func shown(s string) string { return strconv.Quote(s[:min(len(s), 100)]) }

// takes asks for an answer, and how many are remembered then.
func takes(t *testing.T, b *inbox.Box, origin, id, text string, want answer, remembered int) {
	t.Helper()
	x, e := b.Take(origin, id, text)
	if !sameAnswer(x, want) || e != api.OK || b.Len() != remembered {
		t.Errorf("Take(%q, %s, %s): %+v, %d, of %d, not %+v, of %d", origin, shown(id), shown(text), x, e, b.Len(), want, remembered)
	}
}

// refuses asks for an error, with which nothing is remembered.
func refuses(t *testing.T, b *inbox.Box, origin, id, text string, want api.Errno) {
	t.Helper()
	before := b.Len()
	x, e := b.Take(origin, id, text)
	if x.Old || len(x.Verdicts) != 0 || len(x.Kept) != 0 || e != want || b.Len() != before {
		t.Errorf("Take(%q, %s, %s): %+v, %d, of %d, not %d, of %d", origin, shown(id), shown(text), x, e, b.Len(), want, before)
	}
}

func TestP56_1New(t *testing.T) {
	for v := 1; v <= 11; v++ {
		for _, ring := range []*keyring.Ring{nil, keyring.New(), ringOf(t)} {
			for _, room := range []int{1, 2, 500, 999, 1000} {
				newBox(t, v, ring, room)
			}
			for _, room := range []int{0, -1, 1001, 1002, 1 << 20, math.MinInt, math.MaxInt} {
				if b, e := inbox.New(v, ring, room); b != nil || e != api.ErrRange {
					t.Errorf("New(%d, %d): %v, %d", v, room, b, e)
				}
			}
		}
	}
	for _, v := range noVersions {
		for _, ring := range []*keyring.Ring{nil, ringOf(t)} {
			for _, room := range []int{1, 1000, 0, -1, 1001} {
				if b, e := inbox.New(v, ring, room); b != nil || e != api.ErrVersion {
					t.Errorf("New(%d, %d): %v, %d", v, room, b, e)
				}
			}
		}
	}
}

func TestP56_2WhatIsTaken(t *testing.T) {
	ring := ringOf(t)
	for v := 1; v <= 11; v++ {
		b := newBox(t, v, ring, 3)
		text, want := some(t, v, "o.p:80", 1)
		takes(t, b, "o.p:80", "1", text, want, 1)
		r, _, e := decode.Decode(v, ring, text)
		if e != api.OK || !sameAnswer(want, answer{Verdicts: r.Verdicts, Kept: r.Kept}) {
			t.Errorf("%+v, %d, not %+v", r, e, want)
		}
		takes(t, b, "o.p:80", "2", textOf(t, "o.p:80"), answer{}, 2)
		takes(t, b, "o.p:80", "1", text, old(want), 2)
		takes(t, b, "o.p:80", "2", text, old(answer{}), 2)
		// The same text by another ID is taken anew.
		takes(t, b, "o.p:80", "3", text, want, 3)
		takes(t, b, "o.p:80", "3", text, old(want), 3)
	}
	// What stands where in the text counts for nothing.
	b := newBox(t, 3, nil, 1)
	takes(t, b, "a.b", "x", ` {"pdus" : [ 1,{} ], "origin_server_ts":0,"origin":"a\u002eb"} `, answer{Verdicts: []api.Verdict{{Err: api.ErrType}, {Err: api.ErrField}}}, 1)
}

// Whatever text comes by an ID that is remembered, it isn't looked at.
func TestP56_2WhatIsOld(t *testing.T) {
	for _, v := range []int{1, 3, 11} {
		b := newBox(t, v, ringOf(t), 4)
		text, want := some(t, v, "a.b", 1)
		takes(t, b, "a.b", "1", text, want, 1)
		other, otherWant := some(t, v, "a.b", 2)
		for _, s := range []string{"", "{", "{}", "[]", "\xff", text, other, textOf(t, "c.d"), textOf(t, "a.b"), strings.Repeat(" ", api.MaxTxn+1)} {
			takes(t, b, "a.b", "1", s, old(want), 1)
		}
		takes(t, b, "a.b", "2", other, otherWant, 2)
		takes(t, b, "a.b", "2", text, old(otherWant), 2)
		takes(t, b, "a.b", "1", other, old(want), 2)
	}
}

// Origin and ID tell answers apart, each by itself.
func TestP56_2OriginsAndIDs(t *testing.T) {
	b := newBox(t, 3, nil, 100)
	of := func(number int) answer {
		return answer{Verdicts: slices.Repeat([]api.Verdict{{Err: api.ErrType}}, number)}
	}
	type name struct{ origin, id string }
	names := []name{{"a.b", "1"}, {"a.b", "11"}, {"a.b1", "1"}, {"a.b11", "1"}, {"A.b", "1"}, {"a.b:1", "1"}, {"a.b", ":11"}, {"a.b", "x"}, {"a.b", "X"}, {"a.b", " "}, {"a.b", "\xff"}, {"a.b", "\x00"}, {"a.b", "\ufffd"}, {"x", "a.b"}, {"a.b", "1 "}, {"1.a.b", "1"}}
	for i, n := range names {
		takes(t, b, n.origin, n.id, textOf(t, n.origin, slices.Repeat(list{nil}, i)...), of(i), i+1)
	}
	for i, n := range names {
		takes(t, b, n.origin, n.id, "", old(of(i)), len(names))
	}
}

// Names are asked ahead of what is remembered, and that ahead of the text.
func TestP56_2WhatIsToldFirst(t *testing.T) {
	long := strings.Repeat("i", 256)
	for v := 1; v <= 11; v++ {
		b := newBox(t, v, nil, 5)
		texts := map[string]api.Errno{
			"": api.ErrShort, "{": api.ErrShort, "[1,]": api.ErrForm, "1 2": api.ErrEnd, "-0": api.ErrNumber, "{}": api.ErrField, "[]": api.ErrType, "\"\xff\"": api.ErrText, strings.Repeat(" ", 262145): api.ErrLong,
			`{"origin":"a..b","origin_server_ts":1,"pdus":[]}`: api.ErrName, `{"origin":"a.b","origin_server_ts":-1,"pdus":[]}`: api.ErrRange, `{"origin":"c","origin_server_ts":1,"pdus":[],"x":1}`: api.ErrMore,
			`{"origin":"c","origin_server_ts":1,"pdus":[` + strings.Repeat("1,", 50) + `1]}`: api.ErrMany, `{"origin":"c","origin_server_ts":1,"pdus":[],"edus":[{"edu_type":"","content":{}}]}`: api.ErrShort,
			textOf(t, "c"): api.ErrName, textOf(t, "A.b", 1): api.ErrName, textOf(t, "a.b:80"): api.ErrName, textOf(t, "a.b.", 1): api.ErrName,
		}
		for text, want := range texts {
			for _, id := range []string{"1", " ", long[:255]} {
				refuses(t, b, "a.b", id, text, want)
			}
			for _, id := range []string{"", long, long + long} {
				refuses(t, b, "a.b", id, text, api.ErrID)
			}
			for _, id := range []string{"", "1", long} {
				refuses(t, b, "", id, text, api.ErrName)
				refuses(t, b, "a..b", id, text, api.ErrName)
				refuses(t, b, "a.b:0", id, text, api.ErrName)
				refuses(t, b, strings.Repeat("a", 231), id, text, api.ErrLong)
			}
		}
		for _, id := range []string{"", long} {
			refuses(t, b, "a.b", id, textOf(t, "a.b"), api.ErrID)
		}
		takes(t, b, "a.b", long[:255], textOf(t, "a.b"), answer{}, 1)
		takes(t, b, "a.b", "1", textOf(t, "a.b"), answer{}, 2)
		// What is remembered goes ahead of what is wrong with the text, but not of what is wrong with the names.
		for text := range texts {
			takes(t, b, "a.b", "1", text, old(answer{}), 2)
			refuses(t, b, "a.b", "", text, api.ErrID)
			refuses(t, b, "a..b", "1", text, api.ErrName)
		}
	}
}

// What was refused may come again, and is taken as if it came first.
func TestP56_2WhatIsRefusedIsNotRemembered(t *testing.T) {
	for _, v := range []int{2, 4, 11} {
		b := newBox(t, v, ringOf(t), 1)
		text, want := some(t, v, "a.b", 1)
		refuses(t, b, "a.b", "1", text[1:], api.ErrEnd)
		refuses(t, b, "c.d", "1", text, api.ErrName)
		takes(t, b, "a.b", "1", text, want, 1)
		refuses(t, b, "a.b", "2", "", api.ErrShort)
		refuses(t, b, "c.d", "1", text, api.ErrName)
		takes(t, b, "a.b", "1", "", old(want), 1) // nor is anything forgotten by it
		takes(t, b, "c.d", "1", textOf(t, "c.d"), answer{}, 1)
	}
}

// The answer that was remembered longest is forgotten, whenever it was told again.
func TestP56_2HowMany(t *testing.T) {
	of := func(i int) (string, string, answer) {
		return "a.b", strconv.Itoa(i), answer{Verdicts: slices.Repeat([]api.Verdict{{Err: api.ErrType}}, i%7)}
	}
	for _, room := range []int{1, 2, 3, 10, 999, 1000} {
		b := newBox(t, 5, nil, room)
		comes := func(i, remembered int) {
			t.Helper()
			origin, id, want := of(i)
			takes(t, b, origin, id, textOf(t, origin, slices.Repeat(list{nil}, i%7)...), want, remembered)
		}
		again := func(i int) {
			t.Helper()
			origin, id, want := of(i)
			takes(t, b, origin, id, "", old(want), b.Len())
		}
		for i := range room {
			comes(i, i+1)
			again(0)
		}
		for i := range room {
			again(room - 1 - i)
		}
		for i := range room + 2 { // each one puts out the one that came so many ahead of it
			comes(room+i, room)
			again(room + i)
			again(i + 1)
			origin, id, _ := of(i)
			refuses(t, b, origin, id, "", api.ErrShort)
		}
		// What was forgotten comes in anew, behind the others.
		comes(0, room)
		origin, id, _ := of(room + 2)
		refuses(t, b, origin, id, "", api.ErrShort)
		again(0)
	}
}

// Keys are asked of the ring as it is when a text is taken, but not for what is old.
func TestP56_2TheRing(t *testing.T) {
	for v := 1; v <= 11; v++ {
		m, ring := whole(t, v, 1), keyring.New()
		b, id := newBox(t, v, ring, 1), idOf(t, v, m)
		unknown := answer{Verdicts: []api.Verdict{{ID: id, Err: api.ErrNone}}}
		known := answer{Verdicts: []api.Verdict{{ID: id}}, Kept: []node{read(t, form(t, m))}}
		takes(t, b, "c", "1", textOf(t, "c", m), unknown, 1)
		takes(t, newBox(t, v, nil, 1), "c", "1", textOf(t, "c", m), answer{Verdicts: []api.Verdict{{ID: id, Err: api.ErrArg}}}, 1)
		put(t, ring)
		takes(t, b, "c", "1", textOf(t, "c", m), old(unknown), 1)
		takes(t, b, "c", "2", textOf(t, "c", m), known, 1)
		takes(t, b, "c", "1", textOf(t, "c", m), known, 1) // it was forgotten
		if ring.Len() != 1 {
			t.Error(ring.Len())
		}
	}
}

func TestP56_3NilBox(t *testing.T) {
	var b *inbox.Box
	for _, origin := range []string{"", "a.b"} {
		for _, id := range []string{"", "1"} {
			refuses(t, b, origin, id, textOf(t, "a.b"), api.ErrArg)
		}
	}
	if b.Len() != 0 {
		t.Error(b.Len())
	}
}

// Boxes do what a list does of which the first one is left out, whatever comes.
func TestP56_4AnyBoxes(t *testing.T) {
	r := rand.New(rand.NewSource(564))
	type named struct {
		origin, id string
		x          answer
	}
	olds, refused := 0, 0
	for range 60 {
		room := 1 + r.Intn(6)
		b := newBox(t, 1+r.Intn(11), nil, room)
		var l []named
		for range 40 {
			origin, id := []string{"a", "b", "a.b"}[r.Intn(3)], strconv.Itoa(r.Intn(4))
			errs := r.Intn(9)
			text := textOf(t, origin, slices.Repeat(list{7}, errs)...)
			if r.Intn(5) == 0 {
				text = text[r.Intn(2)+1:]
			}
			at := slices.IndexFunc(l, func(n named) bool { return n.origin == origin && n.id == id })
			switch {
			case at >= 0:
				takes(t, b, origin, id, text, old(l[at].x), len(l))
				olds++
			case text[0] != '{':
				_, _, e := decode.Decode(1, nil, text)
				refuses(t, b, origin, id, text, e)
				refused++
			default:
				x := answer{Verdicts: slices.Repeat([]api.Verdict{{Err: api.ErrType}}, errs)}
				if l = append(l, named{origin, id, x}); len(l) > room {
					l = l[1:]
				}
				takes(t, b, origin, id, text, x, len(l))
			}
		}
	}
	if olds < 200 || refused < 50 {
		t.Error(olds, refused)
	}
}

// What is answered doesn't tell on what is answered later, nor one box on another one.
func TestP56AnswersStay(t *testing.T) {
	ring := ringOf(t)
	a, b := newBox(t, 3, ring, 1), newBox(t, 3, ring, 1)
	text, want := some(t, 3, "a.b", 1)
	first, _ := a.Take("a.b", "1", text)
	takes(t, b, "a.b", "1", text, want, 1)
	second, _ := a.Take("a.b", "1", "")
	takes(t, a, "a.b", "2", textOf(t, "a.b"), answer{}, 1)
	takes(t, a, "a.b", "1", textOf(t, "a.b"), answer{}, 1)
	takes(t, b, "a.b", "1", "", old(want), 1)
	if !sameAnswer(first, want) || !sameAnswer(second, old(want)) {
		t.Errorf("%+v, %+v", first, second)
	}
}

func TestP7EveryCallEnds(t *testing.T) {
	r := rand.New(rand.NewSource(7))
	text := textOf(t, "a.b", whole(t, 3, 1), nil)
	for i := range 64 {
		for _, v := range []int{3, 1 << i, 1<<i - 1, -1 << i, i} {
			b, _ := inbox.New(v, nil, i)
			for range 3 {
				s := []byte(text)
				s[r.Intn(len(s))] = byte(r.Intn(256))
				b.Take("a.b", string(rune(i)), string(s))
				b.Take(string(s[:r.Intn(20)]), string(s[r.Intn(len(s)):]), text[:r.Intn(len(text))])
			}
			b.Len()
		}
	}
}
