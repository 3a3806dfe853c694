package report_test

import (
	"bytes"
	"crypto/ed25519"
	"crypto/sha256"
	"encoding/base64"
	"encoding/json"
	"maps"
	"math"
	"math/rand"
	"slices"
	"strconv"
	"strings"
	"testing"
	"unicode/utf8"

	"sealring/api"
	"sealring/decode"
	"sealring/keyring"
	"sealring/parse"
	"sealring/report"
	"sealring/room"
	"sealring/tree"
)

type (
	node   = api.Node
	fields = map[string]any
	list   = []any
)

func isOwn(v int) bool { return v <= 2 }

// form is a value's one form, by the library's means.
func form(t *testing.T, value any) string {
	t.Helper()
	var b bytes.Buffer
	w := json.NewEncoder(&b)
	w.SetEscapeHTML(false)
	if e := w.Encode(value); e != nil {
		t.Fatal(e)
	}
	return strings.TrimSuffix(b.String(), "\n")
}

func nodeOf(t *testing.T, value any) node {
	t.Helper()
	n, _, e := parse.Parse(form(t, value))
	if e != api.OK {
		t.Fatalf("%v: %d", value, e)
	}
	return n
}

// with is a copy of m whose fields are these, two by two.
func with(m fields, l ...any) fields {
	m = maps.Clone(m)
	for i := 0; i < len(l); i += 2 {
		m[l[i].(string)] = l[i+1]
	}
	return m
}

func without(m fields, keys ...string) fields {
	m = maps.Clone(m)
	for _, key := range keys {
		delete(m, key)
	}
	return m
}

// key is the one by which events are signed here, by the library's means.
func key() ed25519.PrivateKey { return ed25519.NewKeyFromSeed(bytes.Repeat([]byte{9}, 32)) }

func base64Of(b []byte) string { return base64.RawStdEncoding.EncodeToString(b) }

func hashOf(t *testing.T, m fields) []byte {
	t.Helper()
	hash := sha256.Sum256([]byte(form(t, m)))
	return hash[:]
}

// is asks for a text, to the byte.
func is(t *testing.T, what, got, want string) {
	t.Helper()
	if got != want {
		t.Errorf("%q: %q, not %q", what, got, want)
	}
}

// joined are lines as one text.
func joined(l ...string) string {
	var b strings.Builder
	for _, line := range l {
		b.WriteString(line + "\n")
	}
	return b.String()
}

// named are names, and the words that stand for them.
func named() map[string]string {
	return map[string]string{
		"": "-", "-": `"-"`, "a": `"a"`, "a.b:80": `"a.b:80"`, " ": `" "`, "a b": `"a b"`, `"`: `"\""`, `""`: `"\"\""`, `\`: `"\\"`, "/": `"/"`, "<&>": `"<&>"`,
		"\n": `"\n"`, "\b\t\n\f\r": `"\b\t\n\f\r"`, "\x00\x01\x0b\x1f\x7f": "\"\\u0000\\u0001\\u000b\\u001f\x7f\"", "é": `"é"`, "\u2028\U0001f600": "\"\u2028\U0001f600\"", "\ufffd": "\"\ufffd\"",
		// What isn't valid has no Quote.
		"\xff": "-", "a\x80": "-", "\xed\xa0\x80": "-", "\xc3": "-",
	}
}

var errnos = []api.Errno{1, 2, 3, 4, 5, 6, 7, 8, 9, 10, 11, 12, 13, 14, 15, 16, 17, 18, 19, 20, 21, 22, 23, 24, 25, 26, 27, -1, 1 << 40, math.MinInt, math.MaxInt}

func TestP49_1Line(t *testing.T) {
	for _, x := range []struct {
		words []string
		want  string
	}{
		{nil, "\n"}, {[]string{}, "\n"}, {[]string{""}, "-\n"}, {[]string{"", ""}, "- -\n"}, {[]string{"a"}, "a\n"}, {[]string{"a", "", "b"}, "a - b\n"}, {[]string{"", "a", ""}, "- a -\n"},
		{[]string{"a", "b", "c", "d", "e"}, "a b c d e\n"}, {[]string{"-"}, "-\n"}, {[]string{"-", ""}, "- -\n"}, {[]string{" ", " a "}, "   a \n"},
		// Words stand as they are, whatever is in them.
		{[]string{"a\nb", "\"\\", "\x00\xff", "é"}, "a\nb \"\\ \x00\xff é\n"}, {[]string{"\n"}, "\n\n"}, {[]string{"\t", "\r"}, "\t \r\n"},
	} {
		is(t, strconv.Quote(strings.Join(x.words, "|")), report.Line(x.words...), x.want)
	}
	is(t, "Line()", report.Line(), "\n")
}

func TestP49_1AnyLines(t *testing.T) {
	rnd := rand.New(rand.NewSource(491))
	some := []string{"", "", "a", "bc", "-", " ", "\n", `"`, "\xff", "é"}
	for range 2000 {
		var words, shown []string
		for range rnd.Intn(6) {
			word := some[rnd.Intn(len(some))]
			words = append(words, word)
			if word == "" {
				word = "-"
			}
			shown = append(shown, word)
		}
		before := slices.Clone(words)
		is(t, strings.Join(words, "|"), report.Line(words...), strings.Join(shown, " ")+"\n")
		if !slices.Equal(words, before) {
			t.Errorf("%q, not %q", words, before)
		}
	}
}

func TestP49_1Verdict(t *testing.T) {
	for id, word := range map[string]string{"": "-", "$a": "$a", "-": "-", "$a:b.c": "$a:b.c", `$"\:x`: `$"\:x`, "a b\nc": "a b\nc", "\xff": "\xff"} {
		is(t, id, report.Verdict(api.Verdict{ID: id}), "event "+word+" ok\n")
		is(t, id, report.Verdict(api.Verdict{ID: id, Redacted: true}), "event "+word+" redacted\n")
		for _, e := range errnos {
			want := "event " + word + " refused " + strconv.Itoa(int(e)) + "\n"
			is(t, id, report.Verdict(api.Verdict{ID: id, Err: e}), want)
			// What is refused is told as refused, though it was redacted ahead of that.
			is(t, id, report.Verdict(api.Verdict{ID: id, Redacted: true, Err: e}), want)
		}
	}
	is(t, "zero", report.Verdict(api.Verdict{}), "event - ok\n")
	is(t, "refused", report.Verdict(api.Verdict{ID: "$a", Err: api.ErrTwice}), "event $a refused 9\n")
}

func edu(kind string) node {
	return node{Kind: api.Map, K: []string{"edu_type", "content"}, L: []node{{Kind: api.Text, S: kind}, {Kind: api.Map}}}
}

// some is a result in which there is something everywhere.
func some() decode.Result {
	return decode.Result{
		Txn:      api.Txn{Origin: "a.b", TS: 7, Pdus: []node{{Kind: api.Int}, {}}, Edus: []node{edu("y"), edu("x"), edu("y")}},
		Verdicts: []api.Verdict{{ID: "$a"}, {Redacted: true}},
		Kept:     []node{{Kind: api.Text, S: "kept"}},
		Info:     api.Info{At: 5, Steps: 6, Depth: 8, Nodes: 9},
	}
}

func TestP49_2Refused(t *testing.T) {
	for name, word := range named() {
		for _, e := range errnos {
			for _, at := range []int{0, 1, 262144, -3, math.MaxInt, math.MinInt} {
				want := "transaction refused " + strconv.Itoa(int(e)) + " " + word + " " + strconv.Itoa(at) + "\n"
				is(t, name, report.Result(decode.Result{Info: api.Info{At: at}}, name, e), want)
				// Nothing else of a result is told.
				r := some()
				r.Info.At = at
				is(t, name, report.Result(r, name, e), want)
			}
		}
	}
}

func TestP49_2Taken(t *testing.T) {
	whole := joined(`transaction "a.b" 7 2 3`, "event $a ok", "event - redacted", `edu "x" 1`, `edu "y" 2`)
	is(t, "some", report.Result(some(), "", api.OK), whole)
	// Neither the field nor how the text was read is told, nor what is kept.
	is(t, "some", report.Result(some(), "name", api.OK), whole)
	r := some()
	r.Info, r.Kept = api.Info{}, nil
	is(t, "some", report.Result(r, "", api.OK), whole)

	is(t, "nothing", report.Result(decode.Result{}, "", api.OK), "transaction - 0 0 0\n")
	for name, word := range named() {
		is(t, name, report.Result(decode.Result{Txn: api.Txn{Origin: name}}, "x", api.OK), "transaction "+word+" 0 0 0\n")
	}
	for _, ts := range []int64{0, 1, -1, 10, 1<<53 - 1, math.MaxInt64, math.MinInt64} {
		is(t, "TS", report.Result(decode.Result{Txn: api.Txn{Origin: "o", TS: ts}}, "", api.OK), `transaction "o" `+strconv.FormatInt(ts, 10)+" 0 0\n")
	}
	for many := range 120 {
		r := decode.Result{Txn: api.Txn{Pdus: make([]node, many), Edus: make([]node, many/2)}}
		is(t, "many", report.Result(r, "", api.OK), "transaction - 0 "+strconv.Itoa(many)+" "+strconv.Itoa(many/2)+"\n")
	}
}

// Verdicts are told one by one, in order, however many Pdus there are.
func TestP49_2Verdicts(t *testing.T) {
	var r decode.Result
	want := "transaction - 0 0 0\n"
	for i := range 60 {
		x := api.Verdict{ID: "$" + strconv.Itoa(60-i), Redacted: i%3 == 1, Err: []api.Errno{0, 0, 21}[i%3]}
		r.Verdicts = append(r.Verdicts, x)
		want += "event " + x.ID + []string{" ok", " redacted", " refused 21"}[i%3] + "\n"
		is(t, "verdicts", report.Result(r, "", api.OK), want)
	}
	same := api.Verdict{ID: "$a"}
	is(t, "twice", report.Result(decode.Result{Verdicts: []api.Verdict{same, same}}, "", api.OK), "transaction - 0 0 0\nevent $a ok\nevent $a ok\n")
}

func TestP49_2Edus(t *testing.T) {
	for _, x := range []struct {
		l    []node
		want []string
	}{
		{[]node{edu("m.typing")}, []string{`edu "m.typing" 1`}},
		{[]node{edu("b"), edu("a"), edu("b"), edu("B"), edu("ab"), edu("b")}, []string{`edu "B" 1`, `edu "a" 1`, `edu "ab" 1`, `edu "b" 3`}},
		{[]node{edu("é"), edu("z"), edu("\U0001f600"), edu("\uffff")}, []string{`edu "z" 1`, `edu "é" 1`, "edu \"\uffff\" 1", "edu \"\U0001f600\" 1"}},
		{[]node{edu(`"`), edu("a b"), edu("\n"), edu("-")}, []string{`edu "\n" 1`, `edu "\"" 1`, `edu "-" 1`, `edu "a b" 1`}},
		// Those without a type are of none, but are counted beside the others.
		{[]node{edu(""), {}, {Kind: api.Int, N: 3}, edu("x"), {Kind: api.Map}, {Kind: api.Map, K: []string{"edu_type"}}, {Kind: api.Map, K: []string{"edu_type"}, L: []node{{Kind: api.Int}}}}, []string{`edu "x" 1`}},
		{[]node{edu("\xff"), edu("\xfe"), edu("\xff")}, []string{"edu - 1", "edu - 2"}},
	} {
		r := decode.Result{Txn: api.Txn{Origin: "o", Edus: x.l}}
		want := append([]string{`transaction "o" 0 0 ` + strconv.Itoa(len(x.l))}, x.want...)
		is(t, "edus", report.Result(r, "", api.OK), joined(want...))
	}
}

// quoted is a name as a word, by the library's means.
func quoted(t *testing.T, s string) string {
	t.Helper()
	if s == "" || !utf8.ValidString(s) {
		return "-"
	}
	return form(t, s)
}

func TestP49_2AnyResults(t *testing.T) {
	rnd := rand.New(rand.NewSource(492))
	names := []string{"", "a", "b", "ab", "A", "\xff", "é", "\x01", `"`, " "}
	any := func() string { return names[rnd.Intn(len(names))] }
	for range 500 {
		r := decode.Result{Txn: api.Txn{Origin: any(), TS: rnd.Int63() - rnd.Int63(), Pdus: make([]node, rnd.Intn(4))}, Info: api.Info{At: rnd.Intn(9)}}
		many := map[string]int{}
		for range rnd.Intn(9) {
			kind := any()
			r.Txn.Edus = append(r.Txn.Edus, edu(kind))
			many[kind]++
		}
		want := []string{"transaction " + quoted(t, r.Txn.Origin) + " " + strconv.FormatInt(r.Txn.TS, 10) + " " + strconv.Itoa(len(r.Txn.Pdus)) + " " + strconv.Itoa(len(r.Txn.Edus))}
		for range rnd.Intn(5) {
			x := api.Verdict{ID: "$" + any(), Redacted: rnd.Intn(2) == 0, Err: api.Errno(rnd.Intn(3))}
			r.Verdicts = append(r.Verdicts, x)
			became := "ok"
			if x.Redacted {
				became = "redacted"
			}
			if x.Err != 0 {
				became = "refused " + strconv.Itoa(int(x.Err))
			}
			want = append(want, "event "+x.ID+" "+became)
		}
		for _, kind := range slices.Sorted(maps.Keys(many)) {
			if kind != "" {
				want = append(want, "edu "+quoted(t, kind)+" "+strconv.Itoa(many[kind]))
			}
		}
		field := any()
		is(t, "any", report.Result(r, field, api.OK), joined(want...))
		is(t, "any", report.Result(r, field, 3), "transaction refused 3 "+quoted(t, field)+" "+strconv.Itoa(r.Info.At)+"\n")
	}
}

// event is one of a room, by what names it and what it names.
type event struct {
	id         string
	depth      int64
	prev, auth []string
	whole      fields
}

// kept is what each version keeps of an event of a type that it doesn't know.
func kept(m fields) fields { return with(without(m, "body"), "content", fields{}) }

// names are as a version names events.
func names(v int, ids []string) list {
	l := list{}
	for _, id := range ids {
		if isOwn(v) {
			l = append(l, list{id, fields{"sha256": base64Of(make([]byte, 32))}})
		} else {
			l = append(l, id)
		}
	}
	return l
}

// eventIn is an event of a room that passes; in own versions it has the ID that is told, in others that of its hash.
func eventIn(t *testing.T, v int, name, id string, depth int64, prev, auth []string) event {
	t.Helper()
	m := fields{
		"type": "x", "room_id": name, "sender": "@s:a.b", "depth": depth, "origin_server_ts": 8, "body": id,
		"content": fields{"depth": 3}, "prev_events": names(v, prev), "auth_events": names(v, auth),
	}
	if isOwn(v) {
		m["event_id"] = id
	}
	m["hashes"] = fields{"sha256": base64Of(hashOf(t, m))}
	hash := hashOf(t, kept(m))
	switch {
	case v == 3:
		id = "$" + base64Of(hash)
	case !isOwn(v):
		id = "$" + base64.RawURLEncoding.EncodeToString(hash)
	}
	signature := ed25519.Sign(key(), []byte(form(t, kept(m))))
	return event{id, depth, prev, auth, with(m, "signatures", fields{"a.b": fields{"ed25519:1": base64Of(signature)}})}
}

func eventOf(t *testing.T, v int, id string, depth int64, prev, auth []string) event {
	t.Helper()
	return eventIn(t, v, "!r:o", id, depth, prev, auth)
}

// goneOf is an ID of a version's, of none of the events here.
func goneOf(v, number int) string {
	if isOwn(v) {
		return "$gone" + strconv.Itoa(number) + ":a.b"
	}
	hash := sha256.Sum256([]byte(strconv.Itoa(number)))
	return "$" + strings.NewReplacer("+", "a", "/", "b").Replace(base64Of(hash[:]))
}

func ringOf(t *testing.T) *keyring.Ring {
	t.Helper()
	ring := keyring.New()
	if e := ring.Put("a.b", "ed25519:1", string(key().Public().(ed25519.PublicKey))); e != api.OK {
		t.Fatal(e)
	}
	return ring
}

func newRoom(t *testing.T, v int) *room.Room {
	t.Helper()
	r, e := room.New(v, ringOf(t))
	if r == nil || e != api.OK {
		t.Fatal(v, e)
	}
	return r
}

// roomOf is a room of events, all of which come in.
func roomOf(t *testing.T, v int, l ...event) *room.Room {
	t.Helper()
	r := newRoom(t, v)
	for _, x := range l {
		if got := r.Add(nodeOf(t, x.whole)); !slices.Equal(got, []api.Verdict{{ID: x.id}}) {
			t.Fatalf("%+v, not %s", got, x.id)
		}
	}
	return r
}

// tells asks for a room's lines; twice over, as nothing may hang on what was told, and of a copy.
func tells(t *testing.T, r *room.Room, want ...string) {
	t.Helper()
	for range 2 {
		is(t, "Room", report.Room(r), joined(want...))
	}
	is(t, "Copy", report.Room(r.Copy()), joined(want...))
}

// first is the first line of a room of events.
func first(v, many int) string { return `room "!r:o" ` + strconv.Itoa(v) + " " + strconv.Itoa(many) }

func TestP49_3WithoutEvents(t *testing.T) {
	tells(t, nil, "room - 0 0")
	for v := 1; v <= 11; v++ {
		tells(t, newRoom(t, v), "room - "+strconv.Itoa(v)+" 0")
		r, _ := room.New(v, nil)
		tells(t, r, "room - "+strconv.Itoa(v)+" 0")
	}
}

func TestP49_3Names(t *testing.T) {
	for name, word := range map[string]string{"!r:o": `"!r:o"`, `!"\:o.p:80`: `"!\"\\:o.p:80"`, "!-:[::1]": `"!-:[::1]"`, "!<&>/:o": `"!<&>/:o"`, "!\u007e!:o": `"!~!:o"`} {
		for v := 1; v <= 11; v++ {
			x := eventIn(t, v, name, "$x:x", 4, nil, nil)
			tells(t, roomOf(t, v, x), "room "+word+" "+strconv.Itoa(v)+" 1", "head "+x.id)
		}
	}
}

// IDs are words, and no names.
func TestP49_3IDsStandAsTheyAre(t *testing.T) {
	for v := 1; v <= 2; v++ {
		x := eventOf(t, v, `$"\x:x`, 4, []string{`$gone"\:x`}, []string{`$\n:x`})
		tells(t, roomOf(t, v, x), first(v, 1), `head $"\x:x`, `missing $gone"\:x`, `odd $"\x:x missing $gone"\:x`, `odd $"\x:x auth $\n:x`)
	}
}

func TestP49_3Heads(t *testing.T) {
	for v := 1; v <= 11; v++ {
		a := eventOf(t, v, "$z:x", 0, nil, nil)
		b := eventOf(t, v, "$b:x", 1, []string{a.id}, []string{a.id})
		c := eventOf(t, v, "$a:x", 2, []string{a.id}, []string{b.id, a.id})
		d := eventOf(t, v, "$d:x", 3, []string{c.id, b.id}, nil)
		tells(t, roomOf(t, v, a), first(v, 1), "head "+a.id)
		// Heads stand in the order in which they came; those that only allow others are heads nonetheless.
		tells(t, roomOf(t, v, a, b, c), first(v, 3), "head "+b.id, "head "+c.id)
		tells(t, roomOf(t, v, c, b, a), first(v, 3), "head "+c.id, "head "+b.id)
		tells(t, roomOf(t, v, a, b, c, d), first(v, 4), "head "+d.id)
		tells(t, roomOf(t, v, d, b, a, c), first(v, 4), "head "+d.id)
	}
}

func TestP49_3MissingAndOdd(t *testing.T) {
	for v := 1; v <= 11; v++ {
		gone := []string{goneOf(v, 0), goneOf(v, 1), goneOf(v, 2), goneOf(v, 3)}
		slices.Sort(gone)
		a := eventOf(t, v, "$z:x", 7, []string{gone[2]}, []string{gone[3]})
		b := eventOf(t, v, "$b:x", 7, []string{gone[2], a.id, gone[0]}, []string{gone[1], a.id})
		ofA := []string{"odd " + a.id + " missing " + gone[2], "odd " + a.id + " auth " + gone[3]}
		ofB := []string{"odd " + b.id + " missing " + gone[2], "odd " + b.id + " depth " + a.id, "odd " + b.id + " missing " + gone[0], "odd " + b.id + " auth " + gone[1]}
		// Each that is missing stands there once, rising; what only should allow others isn't among them.
		ahead := []string{first(v, 2), "head " + b.id, "missing " + gone[0], "missing " + gone[2]}
		tells(t, roomOf(t, v, a, b), slices.Concat(ahead, ofA, ofB)...)
		tells(t, roomOf(t, v, b, a), slices.Concat(ahead, ofB, ofA)...)
	}
}

// What leads to itself names no other one: a - stands in its place.
func TestP49_3Rings(t *testing.T) {
	for v := 1; v <= 2; v++ {
		itself := eventOf(t, v, "$i:x", 4, []string{"$i:x"}, nil)
		tells(t, roomOf(t, v, itself), first(v, 1), "odd $i:x depth $i:x", "odd $i:x ring -")
		a := eventOf(t, v, "$a:x", 1, []string{"$b:x"}, nil)
		b := eventOf(t, v, "$b:x", 2, []string{"$a:x"}, nil)
		tells(t, roomOf(t, v, b, a), first(v, 2), "odd $b:x ring -", "odd $a:x depth $b:x", "odd $a:x ring -")
		c := eventOf(t, v, "$c:x", 3, []string{"$b:x"}, nil)
		tells(t, roomOf(t, v, c, b, a), first(v, 3), "head $c:x", "odd $b:x ring -", "odd $a:x depth $b:x", "odd $a:x ring -")
	}
}

// A room that is told is as it was; what is redacted, or refused, is told as before.
func TestP49_3TheRoomStays(t *testing.T) {
	for v := 1; v <= 11; v++ {
		a := eventOf(t, v, "$a:x", 3, []string{goneOf(v, 1)}, nil)
		b := eventOf(t, v, "$b:x", 3, []string{a.id}, nil)
		r := roomOf(t, v, a, b)
		want := []string{first(v, 2), "head " + b.id, "missing " + goneOf(v, 1), "odd " + a.id + " missing " + goneOf(v, 1), "odd " + b.id + " depth " + a.id}
		tells(t, r, want...)
		for _, x := range []event{a, b} {
			if n, ok := r.Event(x.id); !ok || !tree.Exact(n, nodeOf(t, x.whole)) {
				t.Errorf("%+v", n)
			}
		}
		other := eventIn(t, v, "!other:o", "$c:x", 9, nil, nil)
		if l := r.Add(nodeOf(t, a.whole), nodeOf(t, other.whole), node{}); l[0].Err != api.ErrTwice || l[1].Err != api.ErrID || l[2].Err == api.OK {
			t.Errorf("%+v", l)
		}
		tells(t, r, want...)
		if e := r.Redact(a.id); e != api.OK {
			t.Error(e)
		}
		tells(t, r, want...)
	}
}

// reckoned are a room's lines by the chapters' words, of events as they came.
func reckoned(v int, l []event) []string {
	at := func(id string) int { return slices.IndexFunc(l, func(x event) bool { return x.id == id }) }
	leads := func(from string) []string { // what is still to be asked stands behind what was
		met := []string{from}
		var out []string
		for i := 0; i < len(met); i++ {
			if at(met[i]) < 0 {
				continue
			}
			for _, id := range l[at(met[i])].prev {
				if out = append(out, id); !slices.Contains(met, id) {
					met = append(met, id)
				}
			}
		}
		return out
	}
	if len(l) == 0 {
		return []string{"room - " + strconv.Itoa(v) + " 0"}
	}
	var prev, missing, out, odd []string
	for _, x := range l {
		prev = append(prev, x.prev...)
		for _, id := range x.prev {
			if i := at(id); i < 0 {
				missing = append(missing, "missing "+id)
				odd = append(odd, "odd "+x.id+" missing "+id)
			} else if l[i].depth >= x.depth {
				odd = append(odd, "odd "+x.id+" depth "+id)
			}
		}
		for _, id := range x.auth {
			if at(id) < 0 {
				odd = append(odd, "odd "+x.id+" auth "+id)
			}
		}
		if slices.Contains(leads(x.id), x.id) {
			odd = append(odd, "odd "+x.id+" ring -")
		}
	}
	out = append(out, first(v, len(l)))
	for _, x := range l {
		if !slices.Contains(prev, x.id) {
			out = append(out, "head "+x.id)
		}
	}
	slices.Sort(missing)
	return slices.Concat(out, slices.Compact(missing), odd)
}

// anyOf are some of these, in any order.
func anyOf(r *rand.Rand, ids []string, most int) []string {
	var l []string
	for _, i := range r.Perm(len(ids))[:r.Intn(min(len(ids), most)+1)] {
		l = append(l, ids[i])
	}
	return l
}

// anyEvents are some events, that name one another and some that aren't here; in own versions also in rings.
func anyEvents(t *testing.T, r *rand.Rand, v int) []event {
	t.Helper()
	var ids []string
	for i := range r.Intn(4) {
		ids = append(ids, goneOf(v, i))
	}
	many := r.Intn(8)
	if isOwn(v) {
		for i := range many {
			ids = append(ids, "$"+strconv.Itoa(i)+":x")
		}
	}
	var l []event
	for i := range many {
		x := eventOf(t, v, "$"+strconv.Itoa(i)+":x", int64(i+r.Intn(3)), anyOf(r, ids, 3), anyOf(r, ids, 2))
		if l = append(l, x); !isOwn(v) {
			ids = append(ids, x.id)
		}
	}
	r.Shuffle(len(l), func(i, j int) { l[i], l[j] = l[j], l[i] })
	return l
}

func TestP49_3AnyRooms(t *testing.T) {
	rnd := rand.New(rand.NewSource(493))
	met := map[string]int{}
	for i := range 110 {
		v := i%11 + 1
		l := anyEvents(t, rnd, v)
		want := reckoned(v, l)
		is(t, "Room", report.Room(roomOf(t, v, l...)), joined(want...))
		for _, line := range want {
			words := strings.Split(line, " ")
			if met[words[0]]++; words[0] == "odd" {
				met["odd "+words[2]]++
			}
		}
	}
	for _, what := range []string{"room", "head", "missing", "odd", "odd missing", "odd depth", "odd auth", "odd ring"} {
		if met[what] < 10 {
			t.Errorf("%s: %d", what, met[what])
		}
	}
}

// What bytes come to is told as decode has it.
func TestP49_2OfBytes(t *testing.T) {
	for v := 1; v <= 11; v++ {
		ring := ringOf(t)
		a, b := eventOf(t, v, "$a:x", 1, nil, nil), eventOf(t, v, "$b:x", 2, nil, nil)
		unsigned := with(b.whole, "signatures", fields{})
		pdus := list{a.whole, with(b.whole, "body", "other"), unsigned, 7, fields{}, a.whole}
		edus := list{fields{"edu_type": "n", "content": fields{}}, fields{"edu_type": "m \n", "content": fields{}}, fields{"edu_type": "n", "content": fields{}}}
		text := form(t, fields{"origin": "o.p:80", "origin_server_ts": 1<<53 - 1, "pdus": pdus, "edus": edus})
		r, name, e := decode.Decode(v, ring, text)
		is(t, "taken", report.Result(r, name, e), joined(
			`transaction "o.p:80" 9007199254740991 6 3`,
			"event "+a.id+" ok", "event "+b.id+" redacted", "event "+b.id+" refused 8", "event - refused 16", "event - refused 15", "event "+a.id+" ok",
			`edu "m \n" 1`, `edu "n" 2`,
		))
		for text, want := range map[string]string{
			"": `refused 5 - 0`, "{}": `refused 15 "origin" 0`, "[1,]": "refused 6 - 3", `{"a":1,"a":2}`: "refused 9 - 7", "[]": "refused 16 - 0",
			`{"origin":"a.b","origin_server_ts":1,"pdus":[],"a\"b":1}`: `refused 26 "a\"b" 0`, `{"origin":"a.b","origin_server_ts":1,"pdus":[],"":1}`: "refused 26 - 0",
			`{"origin":"a.b","origin_server_ts":-1,"pdus":[]}`: `refused 2 "origin_server_ts" 0`, strings.Repeat(" ", api.MaxTxn+1): "refused 4 - 0",
		} {
			r, name, e := decode.Decode(v, ring, text)
			is(t, text[:min(len(text), 80)], report.Result(r, name, e), "transaction "+want+"\n")
		}
	}
	r, name, e := decode.Decode(12, nil, "{}")
	is(t, "version", report.Result(r, name, e), "transaction refused 24 - 0\n")
}

func linesOf(s string) []string { return slices.Collect(report.Lines(s)) }

func TestP49_4Lines(t *testing.T) {
	for s, want := range map[string][]string{
		"": nil, "\n": {""}, "\n\n": {"", ""}, "a": {"a"}, "a\n": {"a"}, "a\nb": {"a", "b"}, "a\nb\n": {"a", "b"}, "\na": {"", "a"}, "a\n\n": {"a", ""}, "a\n\nb": {"a", "", "b"}, " ": {" "}, "a\n ": {"a", " "},
		// Nothing but a line feed ends a line.
		"a\rb\r\nc": {"a\rb\r", "c"}, "a\x00b\x0b\x0cc\u0085\u2028": {"a\x00b\x0b\x0cc\u0085\u2028"}, "\xff\n\xfe": {"\xff", "\xfe"}, "é\n": {"é"}, "\u010a\u0a0a": {"\u010a\u0a0a"},
	} {
		if got := linesOf(s); !slices.Equal(got, want) {
			t.Errorf("%q: %q, not %q", s, got, want)
		}
	}
}

func TestP49_4AnyTexts(t *testing.T) {
	rnd := rand.New(rand.NewSource(494))
	for range 5000 {
		var b strings.Builder
		for range rnd.Intn(12) {
			b.WriteString([]string{"a", "\n", "\n", "\r", "é", "\xff", " "}[rnd.Intn(7)])
		}
		s := b.String()
		want := strings.Split(s, "\n")
		if last := len(want) - 1; want[last] == "" {
			want = want[:last]
		}
		if got := linesOf(s); !slices.Equal(got, want) {
			t.Errorf("%q: %q, not %q", s, got, want)
		}
		again := joined(want...)
		if got := linesOf(again); !slices.Equal(got, want) {
			t.Errorf("%q: %q, not %q", again, got, want)
		}
	}
}

// A range may end ahead of the lines, and begin anew.
func TestP49_4Ranges(t *testing.T) {
	lines := report.Lines("a\nb\n\nc")
	for many := range 5 {
		var got []string
		for line := range lines {
			if len(got) == many {
				break
			}
			got = append(got, line)
		}
		if want := []string{"a", "b", "", "c"}[:many]; !slices.Equal(got, want) {
			t.Errorf("%d: %q, not %q", many, got, want)
		}
	}
	var both []string
	for line := range lines { // two ranges at once go by themselves
		for other := range lines {
			both = append(both, line+other)
		}
	}
	if len(both) != 16 || both[7] != "bc" || both[15] != "cc" {
		t.Errorf("%q", both)
	}
	if lines := report.Lines(""); lines == nil {
		t.Error("nil")
	}
}

// What is told is lines, whatever names there are.
func TestP49_4OfWhatIsTold(t *testing.T) {
	r := some()
	r.Txn.Origin = "a\nb"
	want := []string{`transaction "a\nb" 7 2 3`, "event $a ok", "event - redacted", `edu "x" 1`, `edu "y" 2`}
	if got := linesOf(report.Result(r, "", api.OK)); !slices.Equal(got, want) {
		t.Errorf("%q, not %q", got, want)
	}
}

// A long text is gone through in no time that counts.
func TestP49_4Much(t *testing.T) {
	const many = 1 << 20
	n := 0
	for line := range report.Lines(strings.Repeat("ab\n", many)) {
		if n++; line != "ab" {
			t.Fatalf("%q", line)
		}
	}
	if n != many {
		t.Error(n)
	}
}

// What is handed in stays as it is, its spare room included.
func TestP49WhatIsHandedInStays(t *testing.T) {
	words := append(make([]string, 0, 9), "", "a", "")
	report.Line(words...)
	if got := words[:9]; !slices.Equal(got, []string{"", "a", "", "", "", "", "", "", ""}) {
		t.Errorf("%q", got)
	}
	r := some()
	r.Verdicts = slices.Grow(r.Verdicts, 5)
	r.Txn.Edus = slices.Grow(r.Txn.Edus, 5)
	report.Result(r, "x", api.OK)
	report.Result(r, "x", api.ErrMore)
	want := some()
	if !slices.Equal(r.Verdicts, want.Verdicts) || !slices.EqualFunc(r.Txn.Edus, want.Txn.Edus, tree.Exact) || !slices.EqualFunc(r.Txn.Pdus, want.Txn.Pdus, tree.Exact) || r.Txn.Origin != want.Txn.Origin {
		t.Errorf("%+v", r)
	}
	for _, x := range r.Verdicts[len(r.Verdicts):cap(r.Verdicts)] {
		if x != (api.Verdict{}) {
			t.Errorf("%+v", x)
		}
	}
	for _, n := range r.Txn.Edus[len(r.Txn.Edus):cap(r.Txn.Edus)] {
		if !tree.Exact(n, node{}) {
			t.Errorf("%+v", n)
		}
	}
}
