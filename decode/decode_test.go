package decode_test

import (
	"bytes"
	"crypto/ed25519"
	"crypto/sha256"
	"encoding/base64"
	"encoding/json"
	"maps"
	"math"
	"math/rand"
	"slices"
	"strconv"
	"strings"
	"testing"

	"sealring/api"
	"sealring/bound"
	"sealring/decode"
	"sealring/keyring"
	"sealring/parse"
	"sealring/tree"
	"sealring/verdict"
)

type (
	node   = api.Node
	fields = map[string]any
	list   = []any
)

var noVersions = []int{0, -1, 12, 13, 100, math.MinInt, math.MaxInt}

// empty is a transaction's text in which nothing stands.
const empty = `{"origin":"a.b","origin_server_ts":1,"pdus":[]}`

func isOwn(v int) bool { return v <= 2 }

// form is a value's one form, by the library's means.
func form(t *testing.T, value any) string {
	t.Helper()
	var b bytes.Buffer
	w := json.NewEncoder(&b)
	w.SetEscapeHTML(false)
	if e := w.Encode(value); e != nil {
		t.Fatal(e)
	}
	return strings.TrimSuffix(b.String(), "\n")
}

func read(t *testing.T, s string) node {
	t.Helper()
	n, _, e := parse.Parse(s)
	if e != api.OK {
		t.Fatalf("%s: %d", s, e)
	}
	return n
}

func with(m fields, key string, value any) fields {
	m = maps.Clone(m)
	m[key] = value
	return m
}

func without(m fields, keys ...string) fields {
	m = maps.Clone(m)
	for _, key := range keys {
		delete(m, key)
	}
	return m
}

// keyOf is one of some keys, by the library's means.
func keyOf(i int) ed25519.PrivateKey {
	return ed25519.NewKeyFromSeed(bytes.Repeat([]byte{byte(i)}, 32))
}

func publicOf(i int) string { return string(keyOf(i).Public().(ed25519.PublicKey)) }

func base64Of(b []byte) string { return base64.RawStdEncoding.EncodeToString(b) }

// ringOf has the key by which events are signed here.
func ringOf(t *testing.T) *keyring.Ring {
	t.Helper()
	r := keyring.New()
	if e := r.Put("a.b", "ed25519:1", publicOf(1)); e != api.OK {
		t.Fatal(e)
	}
	return r
}

// kept is what each version keeps of an event of a type that it doesn't know.
func kept(v int, m fields) fields {
	m = without(m, "unsigned", "body")
	if v >= 11 {
		m = without(m, "origin")
	}
	return with(m, "content", fields{})
}

// hashed has the hash of its content.
func hashed(t *testing.T, m fields) fields {
	t.Helper()
	hash := sha256.Sum256([]byte(form(t, without(m, "unsigned", "signatures", "hashes"))))
	return with(m, "hashes", fields{"sha256": base64Of(hash[:])})
}

// signed has a signature of the sender's server.
func signed(t *testing.T, v int, m fields) fields {
	t.Helper()
	signature := ed25519.Sign(keyOf(1), []byte(form(t, without(kept(v, m), "signatures"))))
	return with(m, "signatures", fields{"a.b": fields{"ed25519:1": base64Of(signature)}})
}

// idOf is an event's ID, by the library's means.
func idOf(t *testing.T, v int, m fields) string {
	t.Helper()
	if isOwn(v) {
		return m["event_id"].(string)
	}
	hash := sha256.Sum256([]byte(form(t, without(kept(v, m), "signatures"))))
	if v == 3 {
		return "$" + base64Of(hash[:])
	}
	return "$" + base64.RawURLEncoding.EncodeToString(hash[:])
}

// whole is an event that passes as it is; those of other numbers are other ones.
func whole(t *testing.T, v, number int) fields {
	t.Helper()
	m := fields{
		"type": "x", "room_id": "!r:o", "sender": "@s:a.b", "depth": number, "origin_server_ts": 8, "origin": "o", "unsigned": fields{"age": 1}, "body": "<\u00e9>",
		"content": fields{"n": number}, "prev_events": list{}, "auth_events": list{},
	}
	if isOwn(v) {
		m["event_id"] = "$" + strconv.Itoa(number) + ":a.b"
	}
	return signed(t, v, hashed(t, m))
}

// event is an element of a transaction, and what becomes of it.
type event struct {
	value any
	want  api.Verdict
	taken any // what is kept of it, if it passes
}

// events are some of each kind: such as pass, such as are redacted, and such as are refused.
func events(t *testing.T, v int) []event {
	t.Helper()
	var l []event
	for i := range 3 {
		m := whole(t, v, i)
		id := idOf(t, v, m)
		other := with(m, "body", "b")
		unsigned := with(m, "signatures", fields{"c.d": fields{"ed25519:1": base64Of(make([]byte, 64))}})
		badly := with(m, "signatures", fields{"a.b": fields{"ed25519:1": base64Of(make([]byte, 64))}})
		l = append(l,
			event{m, api.Verdict{ID: id}, m},
			event{other, api.Verdict{ID: id, Redacted: true}, kept(v, other)},
			event{unsigned, api.Verdict{ID: id, Err: api.ErrNone}, nil},
			event{badly, api.Verdict{ID: id, Err: api.ErrSign}, nil},
		)
	}
	m := whole(t, v, 9)
	for _, other := range []event{
		{nil, api.Verdict{Err: api.ErrType}, nil}, {7, api.Verdict{Err: api.ErrType}, nil}, {list{m}, api.Verdict{Err: api.ErrType}, nil},
		{fields{}, api.Verdict{Err: api.ErrField}, nil}, {without(m, "depth"), api.Verdict{Err: api.ErrField}, nil}, {with(m, "sender", "s"), api.Verdict{Err: api.ErrID}, nil},
		{with(m, "depth", -1), api.Verdict{Err: api.ErrRange}, nil}, {with(m, "body", strings.Repeat("x", api.MaxEvent)), api.Verdict{Err: api.ErrBig}, nil},
	} {
		l = append(l, other)
	}
	return l
}

// edus are some short-lived events.
func edus() list {
	return list{fields{"edu_type": "m.typing", "content": fields{}}, fields{"edu_type": "x", "content": fields{"a": nil}, "more": 1}}
}

// textOf is a transaction of those events, by the library's means.
func textOf(t *testing.T, l []event, edus list) string {
	t.Helper()
	pdus := list{}
	for _, e := range l {
		pdus = append(pdus, e.value)
	}
	m := fields{"origin": "o.p:80", "origin_server_ts": 1<<53 - 1, "pdus": pdus}
	if edus != nil {
		m["edus"] = edus
	}
	return form(t, m)
}

func sameNodes(a, b []node) bool { return slices.EqualFunc(a, b, tree.Same) }

func exactNodes(a, b []node) bool { return slices.EqualFunc(a, b, tree.Exact) }

func sameTxn(a, b api.Txn) bool {
	return a.Origin == b.Origin && a.TS == b.TS && exactNodes(a.Pdus, b.Pdus) && exactNodes(a.Edus, b.Edus)
}

// alike holds two results against each other, but for Info.
func alike(a, b decode.Result) bool {
	return sameTxn(a.Txn, b.Txn) && slices.Equal(a.Verdicts, b.Verdicts) && exactNodes(a.Kept, b.Kept)
}

func shown(s string) string { return strconv.Quote(s[:min(len(s), 500)]) }

// refuses asks for an error, beside which nothing is told but how the text was read.
func refuses(t *testing.T, v int, ring *keyring.Ring, b, name string, info api.Info, want api.Errno) {
	t.Helper()
	r, got, e := decode.Decode(v, ring, b)
	if !alike(r, decode.Result{}) || r.Info != info || got != name || e != want {
		t.Errorf("Decode(%d, %s): %+v, %q, %d, not %+v, %q, %d", v, shown(b), r, got, e, info, name, want)
	}
}

// takes asks what becomes of a transaction's events.
func takes(t *testing.T, v int, ring *keyring.Ring, b string, l []event) decode.Result {
	t.Helper()
	r, name, e := decode.Decode(v, ring, b)
	if name != "" || e != api.OK {
		t.Fatalf("Decode(%d, %s): %q, %d", v, shown(b), name, e)
	}
	var pdus, kept []node
	var verdicts []api.Verdict
	for _, x := range l {
		pdus, verdicts = append(pdus, read(t, form(t, x.value))), append(verdicts, x.want)
		if x.want.Err == api.OK {
			kept = append(kept, read(t, form(t, x.taken)))
		}
	}
	if !sameNodes(r.Txn.Pdus, pdus) || !slices.Equal(r.Verdicts, verdicts) || !sameNodes(r.Kept, kept) {
		t.Errorf("Decode(%d, %s): %+v, not %+v, %d kept", v, shown(b), r, verdicts, len(kept))
	}
	n, info, _ := parse.Parse(b)
	if r.Info != info || info.At != 0 || info.Depth != tree.Depth(n) || info.Nodes != tree.Count(n) {
		t.Errorf("Decode(%d, %s): %+v, not %+v", v, shown(b), r.Info, info)
	}
	return r
}

// reads asks for what a text is read as.
func reads(t *testing.T, b string, want node, at, depth, nodes int, wanted api.Errno) {
	t.Helper()
	n, info, e := decode.Reads(b)
	if !tree.Exact(n, want) || info.At != at || info.Depth != depth || info.Nodes != nodes || e != wanted {
		t.Errorf("Reads(%s): %+v, %+v, %d, not %d, %d, %d, %d", shown(b), n, info, e, at, depth, nodes, wanted)
	}
	if info.Steps < 1 || info.Steps > bound.Steps(len(b)) {
		t.Errorf("Reads(%s): %d steps", shown(b), info.Steps)
	}
	other, of, told := parse.Parse(b)
	if !tree.Exact(n, other) || info != of || e != told {
		t.Errorf("Reads(%s): %+v, %d, not as Parse: %+v, %d", shown(b), info, e, of, told)
	}
}

func TestP44_1WhatIsRead(t *testing.T) {
	reads(t, `[1, {"a": null}]`, tree.List(tree.Int(1), tree.Map(tree.Text("a"), tree.Null())), 0, 3, 4, api.OK)
	reads(t, " true\n", tree.Bool(true), 0, 1, 1, api.OK)
	reads(t, `"\u00e9"`, tree.Text("\u00e9"), 0, 1, 1, api.OK)
	reads(t, strings.Repeat("[", 64)+strings.Repeat("]", 64), read(t, strings.Repeat("[", 64)+strings.Repeat("]", 64)), 0, 64, 64, api.OK)
	reads(t, `{"b":[],"a":{}}`, tree.Map(tree.Text("b"), tree.List(), tree.Text("a"), tree.Map()), 0, 2, 3, api.OK)
}

// unread are texts that are no value, by the place and the error.
var unread = []struct {
	text string
	at   int
	want api.Errno
}{
	{"", 0, api.ErrShort}, {"  ", 2, api.ErrShort}, {"[", 1, api.ErrShort}, {"[1,]", 3, api.ErrForm}, {`{"a":1,"a":2}`, 7, api.ErrTwice}, {"1 2", 2, api.ErrEnd}, {"{}]", 2, api.ErrEnd},
	{"9007199254740992", 0, api.ErrRange}, {"1.0", 0, api.ErrNumber}, {"-0", 0, api.ErrNumber}, {"\"\xff\"", 0, api.ErrText}, {`"\x"`, 0, api.ErrEscape}, {strings.Repeat("[", 65), 64, api.ErrDeep},
	{empty + ",", len(empty), api.ErrEnd}, {empty[:len(empty)-1], len(empty) - 1, api.ErrShort}, {strings.Replace(empty, "pdus", "origin", 1), strings.Index(empty, `"pdus`), api.ErrTwice},
}

func TestP44_1WhatIsNot(t *testing.T) {
	for _, x := range unread {
		reads(t, x.text, node{}, x.at, 0, 0, x.want)
	}
}

// tooLong asks for what becomes of a text that isn't looked at.
func tooLong(t *testing.T, b string) {
	t.Helper()
	if n, info, e := decode.Reads(b); !tree.Exact(n, node{}) || info != (api.Info{}) || e != api.ErrLong {
		t.Errorf("Reads of %d bytes: %+v, %d", len(b), info, e)
	}
	refuses(t, 3, nil, b, "", api.Info{}, api.ErrLong)
}

func TestP44_1TooLong(t *testing.T) {
	blank := func(size int) string { return empty + strings.Repeat(" ", size-len(empty)) }
	text := func(size int) string { return `"` + strings.Repeat("x", size-2) + `"` }
	for _, size := range []int{262143, 262144} {
		reads(t, text(size), tree.Text(text(size)[1:size-1]), 0, 1, 1, api.OK)
		reads(t, blank(size), read(t, empty), 0, 2, 4, api.OK)
		reads(t, strings.Repeat(" ", size), node{}, size, 0, 0, api.ErrShort)
		takes(t, 11, nil, blank(size), nil)
	}
	for _, size := range []int{262145, 262146, 300000, 5000000} {
		for _, b := range []string{text(size), blank(size), strings.Repeat(" ", size), strings.Repeat("[", size), strings.Repeat("\xff", size), strings.Repeat("\x00", size), strings.Repeat(empty, size/len(empty)+1), "}" + blank(size)} {
			tooLong(t, b)
		}
	}
}

func TestP44_2VersionIsToldFirst(t *testing.T) {
	for _, v := range noVersions {
		for _, b := range []string{"", "{}", empty, "[", strings.Repeat(" ", 262145), textOf(t, events(t, 3), edus())} {
			refuses(t, v, nil, b, "", api.Info{}, api.ErrVersion)
			refuses(t, v, ringOf(t), b, "", api.Info{}, api.ErrVersion)
		}
	}
}

func TestP44_2WhatIsNoValue(t *testing.T) {
	for v := 1; v <= 11; v++ {
		for _, x := range unread {
			_, info, _ := parse.Parse(x.text)
			if info.At != x.at || info.Steps < 1 || info.Depth != 0 || info.Nodes != 0 {
				t.Errorf("%s: %+v", shown(x.text), info)
			}
			refuses(t, v, nil, x.text, "", info, x.want)
		}
	}
}

// unframed are values that are no transaction, by the field and the error.
var unframed = []struct {
	text, name string
	want       api.Errno
}{
	{"null", "", api.ErrType}, {"[]", "", api.ErrType}, {"7", "", api.ErrType}, {"[" + empty + "]", "", api.ErrType},
	{"{}", "origin", api.ErrField}, {`{"pdus":[],"origin_server_ts":1}`, "origin", api.ErrField}, {`{"origin":1,"x":2}`, "origin", api.ErrType}, {`{"origin":""}`, "origin_server_ts", api.ErrField},
	{`{"origin":"a..b","origin_server_ts":1,"pdus":[]}`, "origin", api.ErrName}, {`{"origin":"` + strings.Repeat("a", 231) + `","origin_server_ts":1,"pdus":[]}`, "origin", api.ErrLong},
	{`{"origin":"a.b","origin_server_ts":"1","pdus":[]}`, "origin_server_ts", api.ErrType}, {`{"origin":"a.b","origin_server_ts":-1,"pdus":[]}`, "origin_server_ts", api.ErrRange},
	{`{"origin":"a.b","origin_server_ts":1}`, "pdus", api.ErrField}, {`{"origin":"a.b","origin_server_ts":1,"pdus":{}}`, "pdus", api.ErrType},
	{`{"origin":"a.b","origin_server_ts":1,"pdus":[` + strings.Repeat("1,", 50) + `1]}`, "pdus", api.ErrMany},
	{`{"origin":"a.b","origin_server_ts":1,"pdus":[],"edus":{}}`, "edus", api.ErrType}, {`{"origin":"a.b","origin_server_ts":1,"pdus":[],"edus":[{}]}`, "edus", api.ErrField}, {`{"origin":"a.b","origin_server_ts":1,"pdus":[],"edus":[{"edu_type":"","content":{}}]}`, "edus", api.ErrShort},
	{`{"origin":"a.b","origin_server_ts":1,"pdus":[],"edus":[` + strings.Repeat(`{"edu_type":"x","content":{}},`, 100) + `1]}`, "edus", api.ErrMany},
	{`{"origin":"a.b","origin_server_ts":1,"pdus":[1],"x":1,"y":2}`, "x", api.ErrMore}, {`{"":1,"origin":"a.b","origin_server_ts":1,"pdus":[]}`, "", api.ErrMore}, {`{"y":1,"origin":"a..b","origin_server_ts":1,"x":[],"pdus":[]}`, "y", api.ErrMore},
}

func TestP44_2WhatIsNoTransaction(t *testing.T) {
	for v := 1; v <= 11; v++ {
		for _, x := range unframed {
			n := read(t, x.text)
			_, info, _ := parse.Parse(x.text)
			if info.At != 0 || info.Steps < 1 || info.Depth != tree.Depth(n) || info.Nodes != tree.Count(n) {
				t.Errorf("%s: %+v", shown(x.text), info)
			}
			refuses(t, v, nil, x.text, x.name, info, x.want)
			refuses(t, v, ringOf(t), x.text, x.name, info, x.want)
		}
	}
}

func TestP44_2WhatIsTaken(t *testing.T) {
	ring := ringOf(t)
	for v := 1; v <= 11; v++ {
		l := events(t, v)
		r := takes(t, v, ring, textOf(t, l, edus()), l)
		edus := edus()
		if r.Txn.Origin != "o.p:80" || r.Txn.TS != api.MaxInt || !sameNodes(r.Txn.Edus, read(t, form(t, edus)).L) {
			t.Errorf("%+v", r.Txn)
		}
		slices.Reverse(l)
		r = takes(t, v, ring, textOf(t, l, nil), l)
		if len(r.Txn.Edus) != 0 {
			t.Errorf("%+v", r.Txn)
		}
		r = takes(t, v, ring, textOf(t, nil, edus), nil)
		if len(r.Txn.Edus) != 2 {
			t.Errorf("%+v", r.Txn)
		}
		// What stands there twice is judged twice, and kept twice.
		l = slices.Repeat(l[len(l)-2:], 25)
		takes(t, v, ring, textOf(t, l, list{}), l)
	}
}

// The events that are kept stand as they stood, but for what isn't kept of them.
func TestP44_2KeptAsItStands(t *testing.T) {
	ring := ringOf(t)
	for v := 1; v <= 11; v++ {
		n := read(t, form(t, whole(t, v, 1)))
		slices.Reverse(n.K)
		slices.Reverse(n.L)
		var entries []string
		for _, key := range n.K {
			entries = append(entries, strconv.Quote(key)+":"+form(t, whole(t, v, 1)[key]))
		}
		r, _, e := decode.Decode(v, ring, `{"pdus":[{`+strings.Join(entries, ",")+`}],"origin_server_ts":0,"origin":"a.b"}`)
		if e != api.OK || !exactNodes(r.Kept, []node{n}) || !exactNodes(r.Txn.Pdus, []node{n}) || len(r.Verdicts) != 1 || r.Verdicts[0].Err != api.OK {
			t.Errorf("%d: %+v, %d", v, r, e)
		}
	}
}

// Keys are asked of the ring that is handed in, as it is then.
func TestP44_2TheRing(t *testing.T) {
	for v := 1; v <= 11; v++ {
		m := whole(t, v, 1)
		id, ring := idOf(t, v, m), keyring.New()
		with := func(want api.Errno) []event {
			return []event{{m, api.Verdict{ID: id, Err: want}, m}, {fields{}, api.Verdict{Err: api.ErrField}, nil}}
		}
		b := textOf(t, with(api.OK), nil)
		takes(t, v, nil, b, with(api.ErrArg))
		takes(t, v, ring, b, with(api.ErrNone))
		if e := ring.Put("a.b", "ed25519:1", publicOf(1)); e != api.OK {
			t.Fatal(e)
		}
		takes(t, v, ring, b, with(api.OK))
		if ring.Len() != 1 {
			t.Error(ring.Len())
		}
	}
}

// The events of one version aren't another one's.
func TestP44_2EachVersion(t *testing.T) {
	ring := ringOf(t)
	for v := 1; v <= 11; v++ {
		for w := 1; w <= 11; w++ {
			r, _, e := decode.Decode(w, ring, textOf(t, []event{{value: whole(t, v, 1)}}, nil))
			want := api.OK
			switch {
			case isOwn(v) && !isOwn(w):
				want = api.ErrMore
			case !isOwn(v) && isOwn(w):
				want = api.ErrField
			case (v >= 11) != (w >= 11):
				want = api.ErrSign
			}
			if e != api.OK || len(r.Verdicts) != 1 || r.Verdicts[0].Err != want || (len(r.Kept) == 1) != (want == api.OK) {
				t.Errorf("%d as %d: %+v, %d, not %d", v, w, r.Verdicts, e, want)
			}
		}
	}
}

// blanked is a text with blanks between its words, or without, as chance has it.
func blanked(r *rand.Rand, b string) string {
	var out strings.Builder
	within := false
	for i := 0; i < len(b); i++ {
		c := b[i]
		alone := !within && strings.IndexByte("{}[],:", c) >= 0
		if alone && r.Intn(3) == 0 {
			out.WriteString([]string{" ", "\n", "\t\r", "    "}[r.Intn(4)])
		}
		out.WriteByte(c)
		if alone && r.Intn(3) == 0 {
			out.WriteString([]string{" ", "\n", "\t\r", "    "}[r.Intn(4)])
		}
		switch {
		case within && c == '\\':
			i++
			out.WriteByte(b[i])
		case c == '"':
			within = !within
		}
	}
	return out.String()
}

func TestP44_3BlanksCountForNothing(t *testing.T) {
	r, ring := rand.New(rand.NewSource(443)), ringOf(t)
	for v := 1; v <= 11; v += 2 {
		l := events(t, v)
		texts := []string{textOf(t, slices.Concat(l[:3], l[12:17]), edus()), empty}
		for _, x := range unframed {
			texts = append(texts, x.text)
		}
		for _, x := range unread[2:7] {
			texts = append(texts, x.text)
		}
		for _, b := range texts {
			first, name, e := decode.Decode(v, ring, b)
			for range 3 {
				other, called, told := decode.Decode(v, ring, blanked(r, b))
				if !alike(first, other) || name != called || e != told || first.Info.Depth != other.Info.Depth || first.Info.Nodes != other.Info.Nodes {
					t.Errorf("%d: %s: %q, %d, with blanks %q, %d", v, shown(b), name, e, called, told)
				}
			}
			tooLong(t, b+strings.Repeat(" ", 262145-len(b)))
		}
	}
}

// A bad event never changes another one's verdict, nor does a good one.
func TestP44_3EachByItself(t *testing.T) {
	r, ring := rand.New(rand.NewSource(444)), ringOf(t)
	for v := 1; v <= 11; v++ {
		l := events(t, v)
		l = l[:len(l)-1] // but the greatest one, of which not many would fit
		for range 4 {
			var some []event
			for range r.Intn(13) {
				some = append(some, l[r.Intn(len(l))])
			}
			takes(t, v, ring, textOf(t, some, nil), some)
		}
	}
}

// reckoned is what a text comes to, step by step as the chapter has it, each one by the layer's own call.
func reckoned(v int, ring *keyring.Ring, b string) ([]api.Verdict, bool) {
	n, _, e := parse.Parse(b)
	if e != api.OK {
		return nil, false
	}
	pdus, ok := tree.Get(n, "pdus")
	return verdict.All(v, ring, pdus.L...), ok && pdus.Kind == api.List
}

// changed is b with some of its bytes changed.
func changed(r *rand.Rand, b string) string {
	for range 1 + r.Intn(3) {
		if b == "" {
			return b
		}
		at := r.Intn(len(b))
		switch r.Intn(5) {
		case 0:
			b = b[:at] + b[at+1:]
		case 1:
			b = b[:at] + string(`{}[],:"\ 019-truefalsnx`[r.Intn(23)]) + b[at:]
		case 2:
			b = b[:at] + string([]byte{byte(r.Intn(256))}) + b[at+1:]
		case 3:
			b = b[:at]
		default:
			to := min(len(b), at+r.Intn(20))
			b = b[:to] + b[at:to] + b[to:]
		}
	}
	return b
}

// P1: whatever the bytes, there is one result, or one error and nothing else.
func TestP1WhateverBytes(t *testing.T) {
	r, ring := rand.New(rand.NewSource(1)), ringOf(t)
	var ends [2]int
	for i := range 900 {
		v := 1 + i%11
		l := events(t, v)
		l = l[:len(l)-1]
		b := changed(r, textOf(t, []event{l[r.Intn(len(l))], l[r.Intn(len(l))]}, edus()))
		x, name, e := decode.Decode(v, ring, b)
		again, called, told := decode.Decode(v, ring, b)
		if !alike(x, again) || x.Info != again.Info || name != called || e != told {
			t.Errorf("%d: %s: %q, %d, then %q, %d", v, shown(b), name, e, called, told)
		}
		verdicts, ok := reckoned(v, ring, b)
		switch {
		case e != api.OK:
			ends[0]++
			refuses(t, v, nil, b, name, x.Info, e)
		case !ok || !slices.Equal(x.Verdicts, verdicts) || name != "":
			t.Errorf("%d: %s: %+v, not %+v", v, shown(b), x.Verdicts, verdicts)
		default:
			ends[1]++
		}
	}
	if ends[0] < 100 || ends[1] < 100 {
		t.Error(ends)
	}
}

// P5: reading stays within its bounds, whatever comes.
func TestP44_4Steps(t *testing.T) {
	r := rand.New(rand.NewSource(5))
	var keys strings.Builder
	for i := range 20000 {
		keys.WriteString(`"` + strconv.Itoa(i) + `":0,`)
	}
	texts := []string{"", " ", empty, strings.Repeat("[", 262144), strings.Repeat(" ", 262144), strings.Repeat("1,", 131072), "[" + strings.Repeat("1,", 131071), "[" + strings.Repeat("[],", 87381), "{" + keys.String() + `"x":1}`, "{" + keys.String() + `"0":1}`, strings.Repeat(`{"a":`, 52428), strings.Repeat("\\", 262144), `"` + strings.Repeat(`\n`, 131071) + `"`}
	for range 3000 {
		texts = append(texts, changed(r, textOf(t, []event{{value: fields{"a": list{1, nil, fields{}}}}}, edus())))
	}
	for _, b := range texts {
		for _, info := range infos(b) {
			if info.Steps < 1 || info.Steps > bound.Steps(len(b)) || info.Depth > api.MaxDepth || info.Nodes > len(b) {
				t.Errorf("%s: %+v of %d bytes", shown(b), info, len(b))
			}
		}
	}
}

// infos are what both calls tell.
func infos(b string) []api.Info {
	_, info, _ := decode.Reads(b)
	r, _, _ := decode.Decode(11, nil, b)
	return []api.Info{info, r.Info}
}

func TestP7EveryCallEnds(t *testing.T) {
	for c := range 256 {
		for _, b := range []string{string([]byte{byte(c)}), strings.Repeat(string([]byte{byte(c)}), 262144), empty[:40] + string([]byte{byte(c)}) + empty[40:]} {
			for _, v := range []int{3, c, -c, 1 << (c % 64)} {
				decode.Decode(v, nil, b)
			}
		}
	}
	for i := range empty {
		decode.Decode(1, keyring.New(), empty[:i])
		decode.Decode(1, keyring.New(), empty[i:])
	}
}
