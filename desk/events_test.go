package desk_test

import (
	"bytes"
	"crypto/ed25519"
	"crypto/sha256"
	"encoding/base64"
	"encoding/hex"
	"encoding/json"
	"maps"
	"slices"
	"strconv"
	"strings"
	"testing"

	"sealring/api"
	"sealring/canon"
	"sealring/desk"
	"sealring/parse"
)

type (
	node   = api.Node
	fields = map[string]any
	list   = []any
)

func isOwn(v int) bool { return v <= 2 }

// form is a value's one form, by the library's means, which escape two code points that the document doesn't.
func form(t *testing.T, value any) string {
	t.Helper()
	var b bytes.Buffer
	w := json.NewEncoder(&b)
	w.SetEscapeHTML(false)
	if e := w.Encode(value); e != nil {
		t.Fatal(e)
	}
	return strings.NewReplacer(`\u2028`, "\u2028", `\u2029`, "\u2029").Replace(strings.TrimSuffix(b.String(), "\n"))
}

// formOf is a node's form, that its fields may be held against those of others.
func formOf(t *testing.T, n node) string {
	t.Helper()
	s, e := canon.Encode(n)
	if e != api.OK {
		t.Fatalf("%+v: %d", n, e)
	}
	return s
}

// spread is a form with blanks between its words.
func spread(form string) string { return strings.ReplaceAll(form, `,"`, " \t,\r\n  \"") }

func read(t *testing.T, s string) node {
	t.Helper()
	n, _, e := parse.Parse(s)
	if e != api.OK {
		t.Fatalf("%s: %d", s, e)
	}
	return n
}

// with is a copy of m whose fields are these, two by two.
func with(m fields, l ...any) fields {
	m = maps.Clone(m)
	for i := 0; i < len(l); i += 2 {
		m[l[i].(string)] = l[i+1]
	}
	return m
}

func without(m fields, keys ...string) fields {
	m = maps.Clone(m)
	for _, key := range keys {
		delete(m, key)
	}
	return m
}

// only is m with these fields alone.
func only(m fields, keys ...string) fields {
	out := fields{}
	for _, key := range keys {
		if v, ok := m[key]; ok {
			out[key] = v
		}
	}
	return out
}

// seed is the i-th one, seedOf what stands for it in a line, key and public what it comes to by the library's means.
func seed(i int) []byte { return bytes.Repeat([]byte{byte(i)}, 32) }

func seedOf(i int) string { return hex.EncodeToString(seed(i)) }

func key(i int) ed25519.PrivateKey { return ed25519.NewKeyFromSeed(seed(i)) }

func public(i int) string { return string(key(i).Public().(ed25519.PublicKey)) }

func publicOf(i int) string { return hex.EncodeToString([]byte(public(i))) }

func base64Of(b []byte) string { return base64.RawStdEncoding.EncodeToString(b) }

func hashOf(t *testing.T, m fields) []byte {
	t.Helper()
	hash := sha256.Sum256([]byte(form(t, m)))
	return hash[:]
}

// contents are the keys that are kept of contents, by types, as a version has it.
func contents(v int) map[string][]string {
	m := map[string][]string{
		"m.room.member":             {"membership"},
		"m.room.create":             {"creator"},
		"m.room.join_rules":         {"join_rule"},
		"m.room.power_levels":       {"ban", "events", "events_default", "kick", "redact", "state_default", "users", "users_default"},
		"m.room.history_visibility": {"history_visibility"},
	}
	if v <= 5 {
		m["m.room.aliases"] = []string{"aliases"}
	}
	if v >= 8 {
		m["m.room.join_rules"] = append(m["m.room.join_rules"], "allow")
	}
	if v >= 9 {
		m["m.room.member"] = append(m["m.room.member"], "join_authorised_via_users_server")
	}
	if v >= 11 {
		m["m.room.power_levels"] = append(m["m.room.power_levels"], "invite")
		m["m.room.redaction"] = []string{"redacts"}
	}
	return m
}

// kept is what a version keeps of an event.
func kept(v int, m fields) fields {
	keys := []string{"auth_events", "content", "depth", "event_id", "hashes", "origin_server_ts", "prev_events", "room_id", "sender", "signatures", "state_key", "type"}
	if v < 11 {
		keys = append(keys, "membership", "origin", "prev_state")
	}
	kind, whole := m["type"].(string), m["content"].(fields)
	content := only(whole, contents(v)[kind]...)
	if v >= 11 && kind == "m.room.create" {
		content = whole
	}
	if invite, ok := whole["third_party_invite"].(fields); ok && v >= 11 && kind == "m.room.member" {
		content["third_party_invite"] = only(invite, "signed")
	}
	return with(only(m, keys...), "content", content)
}

func hashed(t *testing.T, m fields) fields {
	t.Helper()
	return with(m, "hashes", fields{"sha256": base64Of(hashOf(t, without(m, "unsigned", "signatures", "hashes")))})
}

// signing is what a server signs of an event.
func signing(t *testing.T, v int, m fields) []byte {
	t.Helper()
	return []byte(form(t, without(kept(v, m), "signatures")))
}

// signed is an event that the i-th seed's key signed for its sender's server.
func signed(t *testing.T, v, i int, m fields) fields {
	t.Helper()
	return with(m, "signatures", fields{"a.b": fields{"ed25519:1": base64Of(ed25519.Sign(key(i), signing(t, v, m)))}})
}

// idOf is an event's ID, by the library's means.
func idOf(t *testing.T, v int, m fields) string {
	t.Helper()
	hash := sha256.Sum256(signing(t, v, m))
	switch {
	case isOwn(v):
		return m["event_id"].(string)
	case v == 3:
		return "$" + base64Of(hash[:])
	}
	return "$" + base64.RawURLEncoding.EncodeToString(hash[:])
}

// bare is an event without its hash and its signature; those of other numbers are other ones.
func bare(v, number int) fields {
	m := fields{
		"type": []string{"x", "m.room.member", "m.room.message"}[number%3], "room_id": "!r:o", "sender": "@s:a.b", "state_key": "@s:a.b", "depth": number, "origin_server_ts": 8, "origin": "o", "unsigned": fields{"age": 1}, "body": "<é> a\nb",
		"content": fields{"n": number, "membership": "join"}, "prev_events": list{}, "auth_events": list{},
	}
	if isOwn(v) {
		m["event_id"] = "$" + strconv.Itoa(number) + ":a.b"
	}
	return m
}

// whole is an event that passes, once the first seed's key is known.
func whole(t *testing.T, v, number int) fields {
	t.Helper()
	return signed(t, v, 1, hashed(t, bare(v, number)))
}

// names are as a version names events.
func names(v int, ids ...string) list {
	l := list{}
	for _, id := range ids {
		if isOwn(v) {
			l = append(l, list{id, fields{"sha256": base64Of(make([]byte, 32))}})
		} else {
			l = append(l, id)
		}
	}
	return l
}

// naming is an event that passes and names others in its prev_events.
func naming(t *testing.T, v, number int, ids ...string) fields {
	t.Helper()
	return signed(t, v, 1, hashed(t, with(bare(v, number), "prev_events", names(v, ids...))))
}

// elsewhere is an event of another room.
func elsewhere(t *testing.T, v, number int) fields {
	t.Helper()
	return signed(t, v, 1, hashed(t, with(bare(v, number), "room_id", "!R:o")))
}

func eduOf(kind string) fields { return fields{"edu_type": kind, "content": fields{}} }

// txnOf is a transaction's text, by the library's means.
func txnOf(t *testing.T, pdus []fields, edus ...fields) string {
	t.Helper()
	return form(t, fields{"origin": "a.b", "origin_server_ts": 7, "pdus": append([]fields{}, pdus...), "edus": append([]fields{}, edus...)})
}

// says asks for what a line tells, to the byte.
func says(t *testing.T, d *desk.Desk, line, want string) {
	t.Helper()
	if got := d.Do(line); got != want {
		t.Errorf("%s: %q, not %q", shown(line), got, want)
	}
}

func shown(s string) string {
	if len(s) > 300 {
		return strconv.Quote(s[:300]) + " .."
	}
	return strconv.Quote(s)
}

// wrong is an error's line.
func wrong(e api.Errno) string { return "error " + strconv.Itoa(int(e)) + "\n" }

// passed, redacted and refused are the lines of verdicts.
func passed(id string) string { return "event " + id + " ok\n" }

func redacted(id string) string { return "event " + id + " redacted\n" }

func refused(id string, e api.Errno) string {
	return "event " + id + " refused " + strconv.Itoa(int(e)) + "\n"
}

// deskOf is a desk with a room of that version, which knows the first seed's key.
func deskOf(t *testing.T, v int) *desk.Desk {
	t.Helper()
	d := desk.New()
	says(t, d, "version "+strconv.Itoa(v), "version "+strconv.Itoa(v)+"\n")
	says(t, d, "key a.b ed25519:1 "+publicOf(1), "key a.b ed25519:1\n")
	return d
}

// holds asks which events a desk's room has, in order.
func holds(t *testing.T, d *desk.Desk, v int, ids ...string) {
	t.Helper()
	r := d.Room()
	if r.Version() != v || r.Len() != len(ids) || !slices.Equal(r.IDs(), ids) {
		t.Errorf("version %d, %q, not %d, %q", r.Version(), r.IDs(), v, ids)
	}
}
