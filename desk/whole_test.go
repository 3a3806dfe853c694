package desk_test

import (
	"bytes"
	"crypto/ed25519"
	"encoding/hex"
	"encoding/json"
	"math/rand"
	"reflect"
	"slices"
	"strconv"
	"strings"
	"testing"

	"sealring/api"
	"sealring/batch"
	"sealring/bound"
	"sealring/canon"
	"sealring/decode"
	"sealring/delta"
	"sealring/desk"
	"sealring/encode"
	"sealring/frame"
	"sealring/inbox"
	"sealring/keyring"
	"sealring/outbox"
	"sealring/parse"
	"sealring/recog"
	"sealring/refhash"
	"sealring/schema"
	"sealring/tree"
)

// The promises of the whole, P1 to P6, are asked for here; P7 in calls_test.go.

// mixed are events of all kinds of verdicts.
func mixed(t *testing.T, v int) []fields {
	t.Helper()
	return []fields{
		whole(t, v, 1), with(whole(t, v, 2), "body", "b"), with(whole(t, v, 3), "signatures", fields{}), signed(t, v, 2, whole(t, v, 4)), with(whole(t, v, 5), "depth", 4), {},
		with(whole(t, v, 6), "sender", "@s:o"), with(whole(t, v, 7), "hashes", fields{}), elsewhere(t, v, 8), naming(t, v, 9, idOf(t, v, whole(t, v, 1))),
	}
}

// changed is a text with some bytes changed, put in or left out.
func changed(rnd *rand.Rand, s string) string {
	const likely = "{}[]\",:\\ -0123456789eE.tfn\x00\xff\n"
	b := []byte(s)
	for range 1 + rnd.Intn(3) {
		at, c := rnd.Intn(len(b)), likely[rnd.Intn(len(likely))]
		switch rnd.Intn(5) {
		case 0:
			b[at] = c
		case 1:
			b = slices.Insert(b, at, c)
		case 2:
			b = slices.Delete(b, at, min(at+1+rnd.Intn(3), len(b)))
		case 3:
			b[at] ^= 1 << rnd.Intn(8)
		default:
			b = append(b[:at:at], b[min(at+rnd.Intn(40), len(b)):]...)
		}
		if len(b) == 0 {
			return ""
		}
	}
	return string(b)
}

// verdictsIn are the lines of verdicts behind a transaction's first line.
func verdictsIn(told string, many int) []string { return strings.SplitAfter(told, "\n")[1 : many+1] }

func TestP1WhateverBytes(t *testing.T) {
	t.Parallel()
	rnd := rand.New(rand.NewSource(1))
	for v := 1; v <= 11; v++ {
		text := txnOf(t, mixed(t, v), eduOf("x"))
		taken, alone := 0, map[string]string{}
		for i := range 50 {
			b := text
			if i > 0 {
				b = changed(rnd, text)
			}
			d := deskOf(t, v)
			told := d.Do("txn " + b)
			if i%5 == 0 && told != deskOf(t, v).Do("txn "+b) {
				t.Errorf("%s: not the same again", shown(b))
			}
			n, info, e := decode.Reads(b)
			if words, ok := strings.CutPrefix(told, "transaction refused "); ok {
				// One error, its field, and where: nothing came of it.
				l := strings.SplitN(strings.TrimSuffix(words, "\n"), " ", 2)
				if errno, bad := strconv.Atoi(l[0]); bad != nil || errno < 1 || errno > 26 || !strings.HasSuffix(l[1], " "+strconv.Itoa(info.At)) || strings.Count(told, "\n") != 1 || (e != api.OK && (errno != int(e) || l[1][:2] != "- ")) {
					t.Errorf("%s: %s", shown(b), shown(told))
				}
				holds(t, d, v)
				continue
			}
			x, _, errno := frame.Read(n)
			if errno != api.OK {
				t.Fatalf("%s: %s, %d", shown(b), shown(told), errno)
			}
			taken++
			// Each event is judged by itself.
			for at, line := range verdictsIn(told, len(x.Pdus)) {
				one, _ := canon.Encode(frame.Write(api.Txn{Origin: "a.b", Pdus: x.Pdus[at : at+1]}))
				if alone[one] == "" {
					alone[one] = verdictsIn(deskOf(t, v).Do("txn "+one), 1)[0]
				}
				if alone[one] != line {
					t.Errorf("%s: %s alone, %s beside others", shown(b), shown(alone[one]), shown(line))
				}
			}
		}
		if taken < 5 {
			t.Errorf("%d: %d taken", v, taken)
		}
	}
}

// value is a value as the library has it: of whole numbers, valid texts, lists and maps.
func value(rnd *rand.Rand, deep int) any {
	texts := []string{"", "a", "b", "ab", "A", "é", "\u2028", "\U0001f600", "\x00", "\x1f\n\t", `"\`, "/", "<&>", "\x7f"}
	kind := rnd.Intn(8)
	if deep == 0 {
		kind = rnd.Intn(5)
	}
	switch kind {
	case 0:
		return nil
	case 1:
		return rnd.Intn(2) == 0
	case 2:
		return []int64{0, 1, -1, 10, 9007199254740991, -9007199254740991, rnd.Int63n(1000)}[rnd.Intn(7)]
	case 3, 4:
		return texts[rnd.Intn(len(texts))]
	case 5:
		l := []any{}
		for range rnd.Intn(4) {
			l = append(l, value(rnd, deep-1))
		}
		return l
	}
	m := map[string]any{}
	for range rnd.Intn(5) {
		m[texts[rnd.Intn(len(texts))]] = value(rnd, deep-1)
	}
	return m
}

// quoted is a text in quotation marks, some of it escaped though it needn't be.
func quoted(rnd *rand.Rand, s string) string {
	var b strings.Builder
	b.WriteByte('"')
	for _, r := range s {
		switch {
		case r >= 0x10000 && rnd.Intn(2) == 0:
			b.WriteString(`\u` + strconv.FormatInt(int64(0xd800+(r-0x10000)>>10), 16) + `\u` + strconv.FormatInt(int64(0xdc00+(r-0x10000)&0x3ff), 16))
		case r < 0x10000 && (r < 32 || r == '"' || r == '\\' || rnd.Intn(2) == 0):
			digits := "000" + strconv.FormatInt(int64(r), 16)
			b.WriteString(`\u` + strings.ToUpper(digits[len(digits)-4:]))
		default:
			b.WriteRune(r)
		}
	}
	return b.String() + `"`
}

// text is one that is read as that value.
func text(rnd *rand.Rand, value any) string {
	blank := func() string { return []string{"", "", " ", "\n", "\t\r "}[rnd.Intn(5)] }
	var parts []string
	switch x := value.(type) {
	case nil:
		return blank() + "null" + blank()
	case bool:
		return blank() + strconv.FormatBool(x) + blank()
	case int64:
		return blank() + strconv.FormatInt(x, 10) + blank()
	case string:
		return blank() + quoted(rnd, x) + blank()
	case []any:
		for _, y := range x {
			parts = append(parts, text(rnd, y))
		}
		if len(parts) == 0 {
			parts = []string{blank()}
		}
		return blank() + "[" + strings.Join(parts, ",") + "]" + blank()
	}
	for key, y := range value.(map[string]any) {
		parts = append(parts, blank()+quoted(rnd, key)+blank()+":"+text(rnd, y))
	}
	if len(parts) == 0 {
		parts = []string{blank()}
	}
	return blank() + "{" + strings.Join(parts, ",") + "}" + blank()
}

func TestP2OneForm(t *testing.T) {
	rnd := rand.New(rand.NewSource(2))
	var last any
	for range 3000 {
		x := value(rnd, 4)
		s := text(rnd, x)
		want := form(t, x)
		n, _, e := parse.Parse(s)
		got, f := canon.Encode(n)
		if e != api.OK || f != api.OK || got != want {
			t.Fatalf("%s: %s, %d, %d, not %s", shown(s), shown(got), e, f, shown(want))
		}
		// A text is in the one form just if it is its own form; the form is read as the value.
		if recog.Is(s) != (s == want) || !recog.Is(want) {
			t.Errorf("%s: %v", shown(s), recog.Is(s))
		}
		m, _, e := parse.Parse(want)
		if e != api.OK || !tree.Same(m, n) {
			t.Errorf("%s: %d", shown(want), e)
		}
		// Two texts have the same form just if they are read as the same value.
		other, _, _ := parse.Parse(text(rnd, last))
		same := reflect.DeepEqual(x, last)
		if edits, _ := delta.Of(n, other); tree.Same(n, other) != same || (form(t, last) == want) != same || (len(edits) == 0) != same {
			t.Errorf("%s, %s: %v", shown(s), shown(form(t, last)), same)
		}
		last = x
	}
}

// The lines of a desk tell nothing of how a text was written.
func TestP2LinesAreInOneForm(t *testing.T) {
	t.Parallel()
	rnd := rand.New(rand.NewSource(22))
	for v := 1; v <= 11; v++ {
		d := deskOf(t, v)
		for number := range 8 {
			var m any
			if e := json.Unmarshal([]byte(form(t, with(whole(t, v, number), "depth", nil, "origin_server_ts", nil, "content", value(rnd, 2)))), &m); e != nil {
				t.Fatal(e)
			}
			m = integers(m)
			want := form(t, m)
			for range 3 {
				s := text(rnd, m)
				if d.Do("id "+s) != d.Do("id "+want) {
					t.Errorf("%s: another ID than the form", shown(s))
				}
				line := "sign a.b ed25519:2 " + seedOf(2) + " "
				told := d.Do(line + s)
				if told != d.Do(line+want) || !recog.Is(strings.TrimSuffix(strings.TrimPrefix(told, "signed "), "\n")) {
					t.Errorf("%s: %s", shown(s), shown(told))
				}
			}
		}
	}
}

// integers are a value of the library's with whole numbers for its floats.
func integers(value any) any {
	switch x := value.(type) {
	case float64:
		return int64(x)
	case []any:
		for i := range x {
			x[i] = integers(x[i])
		}
	case map[string]any:
		for key := range x {
			x[key] = integers(x[key])
		}
	}
	return value
}

// rich is an event of a type, with all fields and all keys of contents that a version may keep, and some that none does.
func rich(t *testing.T, rnd *rand.Rand, v int, kind string) fields {
	t.Helper()
	content := fields{}
	for _, key := range strings.Fields("membership join_authorised_via_users_server third_party_invite creator join_rule allow ban events events_default kick redact state_default users users_default invite aliases history_visibility redacts body signed content") {
		if rnd.Intn(3) > 0 {
			content[key] = value(rnd, 2)
		}
	}
	switch rnd.Intn(3) {
	case 0:
		content["third_party_invite"] = fields{"signed": value(rnd, 1), "display_name": "x", "key": 1}
	case 1:
		content["third_party_invite"] = fields{"display_name": value(rnd, 1)}
	}
	m := with(bare(v, 1), "type", kind, "content", content, "membership", value(rnd, 1), "prev_state", value(rnd, 1), "age", 5, "replaces_state", "x", "redacted_because", fields{})
	if rnd.Intn(3) == 0 {
		m = without(m, "origin", "unsigned", "state_key", "membership")
	}
	return signed(t, v, 1, hashed(t, m))
}

var kinds = []string{"m.room.member", "m.room.create", "m.room.join_rules", "m.room.power_levels", "m.room.aliases", "m.room.history_visibility", "m.room.redaction", "m.room.message", "x", ""}

func TestP3Redaction(t *testing.T) {
	t.Parallel()
	rnd := rand.New(rand.NewSource(3))
	for v := 1; v <= 11; v++ {
		for _, kind := range kinds {
			for range 3 {
				m := rich(t, rnd, v, kind)
				d := deskOf(t, v)
				id, left := idOf(t, v, m), form(t, kept(v, m))
				says(t, d, "id "+form(t, m), "id "+id+"\n")
				says(t, d, "event "+form(t, m), passed(id))
				for range 2 { // again nothing changes
					says(t, d, "redact "+id, "redacted "+id+"\n")
					if e, _ := d.Room().Event(id); formOf(t, e) != left {
						t.Errorf("%d, %s: %s, not %s", v, kind, shown(formOf(t, e)), shown(left))
					}
				}
				// Its ID and its hash are those of what is kept of it; that may be, is no greater, and passes elsewhere.
				says(t, d, "id "+left, "id "+id+"\n")
				whole, rest := read(t, form(t, m)), read(t, left)
				if !refhash.Same(v, whole, rest) || !schema.Mays(v, whole, rest) || len(left) > len(form(t, m)) {
					t.Errorf("%d, %s: %s", v, kind, shown(left))
				}
				want := redacted(id)
				if form(t, without(m, "unsigned")) == left {
					want = passed(id)
				}
				says(t, deskOf(t, v), "event "+left, want)
			}
		}
	}
}

func TestP4Signatures(t *testing.T) {
	t.Parallel()
	rnd := rand.New(rand.NewSource(4))
	for v := 1; v <= 11; v++ {
		for _, kind := range kinds {
			m := with(rich(t, rnd, v, kind), "signatures", fields{})
			d := deskOf(t, v)
			id, text := idOf(t, v, m), form(t, m)
			says(t, d, "event "+text, refused(id, api.ErrNone))
			// Signed by three keys, one behind the other: each is what the library makes, and the ID stays.
			servers := fields{}
			for i, by := range []string{"o", "a.b", "[::1]:80"} {
				text = strings.TrimSuffix(strings.TrimPrefix(d.Do("sign "+by+" ed25519:1 "+seedOf(i)+" "+text), "signed "), "\n")
				servers[by] = fields{"ed25519:1": base64Of(ed25519.Sign(key(i), signing(t, v, m)))}
				if want := form(t, with(m, "signatures", servers)); text != want {
					t.Fatalf("%d: %s, not %s", v, shown(text), shown(want))
				}
				says(t, d, "id "+text, "id "+id+"\n")
			}
			x := with(m, "signatures", servers)
			says(t, d, "event "+form(t, with(x, "unsigned", fields{"age": 7})), passed(id))
			// What isn't kept isn't signed; all that is kept is.
			says(t, deskOf(t, v), "event "+form(t, with(x, "body", "b")), redacted(id))
			for _, other := range []fields{with(x, "depth", 77), with(x, "room_id", "!R:o"), with(x, "origin_server_ts", 9), with(x, "state_key", "y"), with(x, "type", kind+"x"), with(x, "hashes", fields{"sha256": base64Of(make([]byte, 32))})} {
				says(t, deskOf(t, v), "event "+form(t, other), refused(idOf(t, v, other), api.ErrSign))
			}
			// A signature of another 64 bytes isn't one, whichever bit is another one.
			signature := ed25519.Sign(key(1), signing(t, v, m))
			for range 3 {
				bad := slices.Clone(signature)
				bad[rnd.Intn(64)] ^= 1 << rnd.Intn(8)
				e := api.ErrSign
				if isAbove(bad[32:]) {
					e = api.ErrScalar
				}
				says(t, deskOf(t, v), "event "+form(t, with(x, "signatures", fields{"a.b": fields{"ed25519:1": base64Of(bad)}})), refused(id, e))
			}
		}
	}
}

// isAbove: is a number, the lowest byte first, the base's order or more?
func isAbove(b []byte) bool {
	order, _ := hex.DecodeString("1000000000000000000000000000000014def9dea2f79cd65812631a5cf5d3ed")
	number := slices.Clone(b)
	slices.Reverse(number)
	return bytes.Compare(number, order) >= 0
}

func TestP5Bounds(t *testing.T) {
	rnd := rand.New(rand.NewSource(5))
	texts := []string{"", "{", strings.Repeat("[", 64), strings.Repeat("[", 65), strings.Repeat("[", 1000) + strings.Repeat("]", 1000), strings.Repeat("[", 64) + strings.Repeat("]", 64), strings.Repeat(`{"a":`, 70), "[" + strings.Repeat("1,", 50000) + "1]", "[" + strings.Repeat(" ", 50000) + "]", `"` + strings.Repeat("a", 100000) + `"`, strings.Repeat("9", 100000)}
	var keys []string
	for i := range 20000 {
		keys = append(keys, `"`+strconv.Itoa(i)+`":0`)
	}
	texts = append(texts, "{"+strings.Join(keys, ",")+"}", "{"+strings.Join(keys, ",")+`,"0":0}`)
	for range 2000 {
		texts = append(texts, changed(rnd, text(rnd, value(rnd, 4))+" "))
	}
	for _, s := range texts {
		n, info, e := decode.Reads(s)
		if info.Steps < 1 || info.Steps > bound.Steps(len(s)) || parse.Depth(s) > api.MaxDepth || info.Depth > api.MaxDepth || info.Nodes > len(s) || tree.Count(n) > max(len(s), 1) {
			t.Errorf("%s: %+v, %d", shown(s), info, e)
		}
		if (e == api.OK) != (tree.Check(n) == api.OK) || e == api.OK && (info.Nodes != tree.Count(n) || info.Depth != tree.Depth(n)) {
			t.Errorf("%s: %+v, %d", shown(s), info, e)
		}
	}
	// What is too long isn't looked at, whatever it is.
	d := deskOf(t, 11)
	for _, s := range []string{" ", "[", "\xff", "1"} {
		long := strings.Repeat(s, api.MaxTxn+1)
		says(t, d, "txn "+long, "transaction refused 4 - 0\n")
		r, name, e := decode.Decode(11, nil, long)
		if r.Info != (api.Info{}) || name != "" || e != api.ErrLong {
			t.Errorf("%q: %+v, %q, %d", s, r.Info, name, e)
		}
		if told := d.Do("txn " + long[1:]); strings.HasPrefix(told, "transaction refused 4 ") {
			t.Errorf("%q: %s", s, shown(told))
		}
	}
}

func TestP6ThereAndBack(t *testing.T) {
	t.Parallel()
	rnd := rand.New(rand.NewSource(6))
	for v := 1; v <= 11; v++ {
		ring := keyring.New()
		ring.Put("a.b", "ed25519:1", public(1))
		for range 10 {
			var x api.Txn
			x.Origin, x.TS = []string{"a.b", "o", "[::1]:80"}[rnd.Intn(3)], rnd.Int63n(api.MaxInt)
			for i := range rnd.Intn(4) {
				x.Pdus = append(x.Pdus, read(t, form(t, with(whole(t, v, i), "body", value(rnd, 3)))))
			}
			for range rnd.Intn(4) {
				x.Edus = append(x.Edus, read(t, form(t, fields{"edu_type": "x", "content": fields{"": value(rnd, 3)}})))
			}
			s, name, e := encode.Encode(v, x)
			r, field, f := decode.Decode(v, ring, s)
			if e != api.OK || f != api.OK || name != "" || field != "" || !frame.Same(r.Txn, x) || !recog.Is(s) {
				t.Errorf("%s: %q, %d, %q, %d", shown(s), name, e, field, f)
			}
		}
	}
}

// filled is a transaction whose form has so many bytes.
func filled(t *testing.T, size int) api.Txn {
	t.Helper()
	x := api.Txn{Origin: "a.b", TS: 5, Edus: []node{tree.Map(tree.Text("edu_type"), tree.Text("x"), tree.Text("content"), tree.Map(tree.Text("a"), tree.Text("")))}}
	empty, e := canon.Size(frame.Write(x))
	if e != api.OK {
		t.Fatal(e)
	}
	x.Edus[0].L[1].L[0].S = strings.Repeat("\n", (size-empty)/2) + strings.Repeat("a", (size-empty)%2)
	return x
}

func TestP6JustIfItIsTooLong(t *testing.T) {
	for _, size := range []int{1000, api.MaxTxn - 1, api.MaxTxn} {
		x := filled(t, size)
		s, name, e := encode.Encode(11, x)
		r, _, f := decode.Decode(11, nil, s)
		if len(s) != size || name != "" || e != api.OK || f != api.OK || !frame.Same(r.Txn, x) {
			t.Errorf("%d: %d, %q, %d, %d", size, len(s), name, e, f)
		}
		says(t, desk.New(), "txn "+s, "transaction \"a.b\" 5 0 1\nedu \"x\" 1\n")
	}
	for _, size := range []int{api.MaxTxn + 1, api.MaxTxn + 2, 2 * api.MaxTxn} {
		if s, name, e := encode.Encode(11, filled(t, size)); s != "" || name != "" || e != api.ErrLong {
			t.Errorf("%d: %d, %q, %d", size, len(s), name, e)
		}
	}
}

// What is to be sent goes through a box, over a line that fails at times, into another box, and comes to a desk: whole, in order, once.
func TestP6WhatIsSentComes(t *testing.T) {
	t.Parallel()
	rnd := rand.New(rand.NewSource(66))
	for v := 1; v <= 11; v += 5 {
		out, _ := outbox.New(v, "a.b")
		ring := keyring.New()
		ring.Put("a.b", "ed25519:1", public(1))
		in, _ := inbox.New(v, ring, 10)
		d := deskOf(t, v)
		var ids, came, kinds, heard []string
		for i := range 70 {
			m := signed(t, v, 1, hashed(t, with(bare(v, i), "body", strings.Repeat("x", rnd.Intn(30000)))))
			ids = append(ids, idOf(t, v, m))
			if e := out.Pdu("c.d", read(t, form(t, m))); e != api.OK {
				t.Fatal(e)
			}
		}
		for i := range 130 {
			kinds = append(kinds, strconv.Itoa(i))
			if e := out.Edu("c.d", read(t, form(t, eduOf(strconv.Itoa(i))))); e != api.OK {
				t.Fatal(e)
			}
		}
		for now := int64(0); ; now++ {
			if pdus, edus := out.Waits("c.d"); pdus+edus == 0 {
				break
			}
			s, ok := out.Next(now)
			if !ok {
				continue
			}
			if len(s.Text) > api.MaxTxn || !recog.Is(s.Text) {
				t.Fatal(len(s.Text))
			}
			got := rnd.Intn(3) > 0
			if got {
				a, e := in.Take("a.b", strconv.Itoa(s.Number), s.Text)
				if e != api.OK || a.Old {
					t.Fatal(e, a.Old)
				}
				told := d.Do("txn " + s.Text)
				n, _, _ := decode.Reads(s.Text)
				x, _, _ := frame.Read(n)
				for _, line := range verdictsIn(told, len(x.Pdus)) {
					came = append(came, strings.Fields(line)[1])
				}
				for _, n := range x.Edus {
					heard = append(heard, n.L[slices.Index(n.K, "edu_type")].S)
				}
			}
			if e := out.Done(s.Server, s.Number, now, got); e != api.OK {
				t.Fatal(e)
			}
		}
		if !slices.Equal(came, ids) || !slices.Equal(heard, kinds) {
			t.Errorf("%d: %d of %d, %d of %d", v, len(came), len(ids), len(heard), len(kinds))
		}
		holds(t, d, v, ids...)
	}
}

func TestP6WhatIsSplitIsJoined(t *testing.T) {
	var l batch.Load
	l.Origin, l.TS = "a.b", 3
	for i := range 130 {
		m := signed(t, 4, 1, hashed(t, with(bare(4, i), "body", strings.Repeat("é", i*97%9000))))
		l.Pdus = append(l.Pdus, read(t, form(t, m)))
	}
	for i := range 260 {
		l.Edus = append(l.Edus, read(t, form(t, eduOf(strconv.Itoa(i)))))
	}
	parts, e := batch.Split(4, l)
	joined := batch.Join(parts...)
	if e != api.OK || !frame.Same(api.Txn(joined), api.Txn(l)) {
		t.Error(e, len(parts))
	}
	for place, s := range batch.All(4, l) {
		n, _, f := decode.Reads(s)
		x, _, g := frame.Read(n)
		if f != api.OK || g != api.OK || !frame.Same(x, parts[place]) || len(s) > api.MaxTxn {
			t.Errorf("%d: %d, %d", place, f, g)
		}
	}
}
