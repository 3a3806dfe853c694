package room_test

import (
	"bytes"
	"crypto/ed25519"
	"crypto/sha256"
	"encoding/base64"
	"encoding/json"
	"maps"
	"math"
	"math/rand"
	"slices"
	"strconv"
	"strings"
	"testing"

	"sealring/api"
	"sealring/dag"
	"sealring/keyring"
	"sealring/parse"
	"sealring/redact"
	"sealring/room"
	"sealring/tree"
	"sealring/verdict"
)

type (
	node   = api.Node
	fields = map[string]any
	list   = []any
)

var noVersions = []int{0, -1, 12, 13, 100, math.MinInt, math.MaxInt}

func isOwn(v int) bool { return v <= 2 }

// form is a value's one form, by the library's means.
func form(t *testing.T, value any) string {
	t.Helper()
	var b bytes.Buffer
	w := json.NewEncoder(&b)
	w.SetEscapeHTML(false)
	if e := w.Encode(value); e != nil {
		t.Fatal(e)
	}
	return strings.TrimSuffix(b.String(), "\n")
}

func nodeOf(t *testing.T, m fields) node {
	t.Helper()
	n, _, e := parse.Parse(form(t, m))
	if e != api.OK {
		t.Fatalf("%v: %d", m, e)
	}
	return n
}

// with is a copy of m whose fields are these, two by two.
func with(m fields, l ...any) fields {
	m = maps.Clone(m)
	for i := 0; i < len(l); i += 2 {
		m[l[i].(string)] = l[i+1]
	}
	return m
}

func without(m fields, keys ...string) fields {
	m = maps.Clone(m)
	for _, key := range keys {
		delete(m, key)
	}
	return m
}

// key is the one by which events are signed here, by the library's means.
func key() ed25519.PrivateKey { return ed25519.NewKeyFromSeed(bytes.Repeat([]byte{7}, 32)) }

func base64Of(b []byte) string { return base64.RawStdEncoding.EncodeToString(b) }

// put puts the key into a ring.
func put(t *testing.T, r *keyring.Ring) {
	t.Helper()
	if e := r.Put("a.b", "ed25519:1", string(key().Public().(ed25519.PublicKey))); e != api.OK {
		t.Fatal(e)
	}
}

func ringOf(t *testing.T) *keyring.Ring {
	t.Helper()
	r := keyring.New()
	put(t, r)
	return r
}

// kept is what each version keeps of an event of m.room.member, or of a type that it doesn't know.
func kept(v int, m fields) fields {
	m = without(m, "unsigned", "body")
	if v >= 11 {
		m = without(m, "origin")
	}
	content := fields{}
	if membership, ok := m["content"].(fields)["membership"]; ok && m["type"] == "m.room.member" {
		content["membership"] = membership
	}
	return with(m, "content", content)
}

func hashed(t *testing.T, m fields) fields {
	t.Helper()
	hash := sha256.Sum256([]byte(form(t, without(m, "unsigned", "signatures", "hashes"))))
	return with(m, "hashes", fields{"sha256": base64Of(hash[:])})
}

func signed(t *testing.T, v int, m fields) fields {
	t.Helper()
	signature := ed25519.Sign(key(), []byte(form(t, without(kept(v, m), "signatures"))))
	return with(m, "signatures", fields{"a.b": fields{"ed25519:1": base64Of(signature)}})
}

// idOf is an event's ID, by the library's means.
func idOf(t *testing.T, v int, m fields) string {
	t.Helper()
	if isOwn(v) {
		return m["event_id"].(string)
	}
	hash := sha256.Sum256([]byte(form(t, without(kept(v, m), "signatures"))))
	if v == 3 {
		return "$" + base64Of(hash[:])
	}
	return "$" + base64.RawURLEncoding.EncodeToString(hash[:])
}

// bare is an event without its hash and its signature; those of other numbers are other ones.
func bare(v, number int) fields {
	m := fields{
		"type": []string{"x", "m.room.member", "m.room.message"}[number%3], "room_id": "!r:o", "sender": "@s:a.b", "state_key": "@s:a.b", "depth": number, "origin_server_ts": 8, "origin": "o", "unsigned": fields{"age": 1}, "body": "<\u00e9>",
		"content": fields{"n": number, "membership": "join"}, "prev_events": list{}, "auth_events": list{},
	}
	if isOwn(v) {
		m["event_id"] = "$" + strconv.Itoa(number) + ":a.b"
	}
	return m
}

func whole(t *testing.T, v, number int) fields {
	t.Helper()
	return signed(t, v, hashed(t, bare(v, number)))
}

// elsewhere is an event of another room.
func elsewhere(t *testing.T, v, number int) fields {
	t.Helper()
	return signed(t, v, hashed(t, with(bare(v, number), "room_id", "!R:o")))
}

// naming names other events, as a version names them.
func naming(t *testing.T, v, number int, ids ...string) fields {
	t.Helper()
	l := list{}
	for _, id := range ids {
		if isOwn(v) {
			l = append(l, list{id, fields{"sha256": base64Of(make([]byte, 32))}})
		} else {
			l = append(l, id)
		}
	}
	return signed(t, v, hashed(t, with(bare(v, number), "prev_events", l)))
}

func newRoom(t *testing.T, v int, ring *keyring.Ring) *room.Room {
	t.Helper()
	r, e := room.New(v, ring)
	if r == nil || e != api.OK {
		t.Fatal(v, e)
	}
	return r
}

// entry is an event that is in a room.
type entry struct {
	id    string
	event node
}

func entryOf(t *testing.T, v int, m fields) entry {
	t.Helper()
	return entry{idOf(t, v, m), nodeOf(t, m)}
}

// keptOf is what is kept of an event.
func keptOf(t *testing.T, v int, m fields) entry {
	t.Helper()
	return entry{idOf(t, v, m), nodeOf(t, kept(v, m))}
}

func sameGraph(a, b *dag.Graph) bool {
	x, all := a.Order()
	y, both := b.Order()
	same := slices.Equal(a.IDs(), b.IDs()) && slices.Equal(x, y) && all == both && slices.Equal(a.Heads(), b.Heads()) && slices.Equal(a.Missing(), b.Missing())
	for _, id := range a.IDs() {
		same = same && slices.Equal(a.Prev(id), b.Prev(id))
	}
	return same
}

// has asks a room for all that it tells.
func has(t *testing.T, r *room.Room, v int, name string, l ...entry) {
	t.Helper()
	var ids []string
	var events []node
	for _, x := range l {
		ids, events = append(ids, x.id), append(events, x.event)
		if got, ok := r.Event(x.id); !ok || !tree.Same(got, x.event) {
			t.Errorf("Event(%s): %+v, %v, not %+v", x.id, got, ok, x.event)
		}
	}
	if !slices.Equal(r.IDs(), ids) || r.Len() != len(l) {
		t.Errorf("IDs: %q, Len: %d, not %q", r.IDs(), r.Len(), ids)
	}
	if r.Name() != name || r.Version() != v {
		t.Errorf("Name: %q, Version: %d, not %q, %d", r.Name(), r.Version(), name, v)
	}
	want, e := dag.Of(v, events...)
	if g := r.Graph(); e != api.OK || g == nil || !sameGraph(g, want) {
		t.Errorf("Graph: %q, not %q, %d", g.IDs(), ids, e)
	}
	for _, id := range []string{"", "$", "$x:y", "!r:o", "$" + strings.Repeat("A", 43)} {
		if got, ok := r.Event(id); ok || !tree.Exact(got, node{}) {
			t.Errorf("Event(%s): %+v, %v", id, got, ok)
		}
	}
}

// adds asks for the verdicts on some events.
func adds(t *testing.T, r *room.Room, l []node, want ...api.Verdict) {
	t.Helper()
	if got := r.Add(l...); !slices.Equal(got, want) {
		t.Errorf("Add: %+v, not %+v", got, want)
	}
}

func passes(x entry) api.Verdict { return api.Verdict{ID: x.id} }

func refused(x entry, e api.Errno) api.Verdict { return api.Verdict{ID: x.id, Err: e} }

func redacts(t *testing.T, r *room.Room, id string, want api.Errno) {
	t.Helper()
	if e := r.Redact(id); e != want {
		t.Errorf("Redact(%s): %d, not %d", id, e, want)
	}
}

func TestP47_1New(t *testing.T) {
	for v := 1; v <= 11; v++ {
		for _, ring := range []*keyring.Ring{nil, keyring.New(), ringOf(t)} {
			r := newRoom(t, v, ring)
			has(t, r, v, "")
			redacts(t, r, "", api.ErrNone)
			redacts(t, r, "$e:a.b", api.ErrNone)
			adds(t, r, nil)
			has(t, r.Copy(), v, "")
		}
	}
	for _, v := range noVersions {
		for _, ring := range []*keyring.Ring{nil, ringOf(t)} {
			if r, e := room.New(v, ring); r != nil || e != api.ErrVersion {
				t.Errorf("New(%d): %v, %d", v, r, e)
			}
		}
	}
}

// Keys are asked of the ring as it is then, also of a copy's.
func TestP47_1TheRing(t *testing.T) {
	for v := 1; v <= 11; v++ {
		x, ring := entryOf(t, v, whole(t, v, 1)), keyring.New()
		r := newRoom(t, v, ring)
		c := r.Copy()
		adds(t, r, []node{x.event}, refused(x, api.ErrNone))
		adds(t, newRoom(t, v, nil), []node{x.event}, refused(x, api.ErrArg))
		has(t, r, v, "")
		put(t, ring)
		adds(t, c, []node{x.event}, passes(x))
		has(t, r, v, "")
		adds(t, r, []node{x.event}, passes(x))
		has(t, r, v, "!r:o", x)
		has(t, c, v, "!r:o", x)
		if ring.Len() != 1 {
			t.Error(ring.Len())
		}
	}
}

func TestP47_2WhatPassesIsHere(t *testing.T) {
	for v := 1; v <= 11; v++ {
		r := newRoom(t, v, ringOf(t))
		var l []entry
		for i := range 5 {
			l = append(l, entryOf(t, v, whole(t, v, 9-i)))
		}
		adds(t, r, []node{l[0].event}, passes(l[0]))
		has(t, r, v, "!r:o", l[0])
		adds(t, r, nil)
		adds(t, r, []node{l[1].event, l[2].event, l[3].event}, passes(l[1]), passes(l[2]), passes(l[3]))
		adds(t, r, []node{l[4].event}, passes(l[4]))
		has(t, r, v, "!r:o", l...)
		for _, x := range l { // in the order in which their fields stand
			if got, _ := r.Event(x.id); !tree.Exact(got, x.event) {
				t.Errorf("%+v, not %+v", got, x.event)
			}
		}
	}
}

// The event is here as it is taken, be it redacted.
func TestP47_2WhatIsRedacted(t *testing.T) {
	for v := 1; v <= 11; v++ {
		for number := range 3 {
			m := whole(t, v, number)
			r, other := newRoom(t, v, ringOf(t)), with(m, "body", "b", "unsigned", fields{})
			x, y := entryOf(t, v, m), keptOf(t, v, other)
			adds(t, r, []node{nodeOf(t, other)}, api.Verdict{ID: x.id, Redacted: true})
			has(t, r, v, "!r:o", y)
			// It stays as it came, also where the whole one comes behind it.
			adds(t, r, []node{x.event}, refused(x, api.ErrTwice))
			has(t, r, v, "!r:o", y)
		}
	}
}

// A verdict is Judge's but for the error: also that an event was redacted stays there.
func TestP47_2Twice(t *testing.T) {
	for v := 1; v <= 11; v++ {
		r, m := newRoom(t, v, ringOf(t)), whole(t, v, 1)
		x, y := entryOf(t, v, m), entryOf(t, v, whole(t, v, 2))
		adds(t, r, []node{x.event, x.event, y.event, x.event, y.event}, passes(x), refused(x, api.ErrTwice), passes(y), refused(x, api.ErrTwice), refused(y, api.ErrTwice))
		has(t, r, v, "!r:o", x, y)
		adds(t, r, []node{y.event, x.event}, refused(y, api.ErrTwice), refused(x, api.ErrTwice))
		adds(t, r, []node{nodeOf(t, with(m, "unsigned", fields{"age": 2}))}, refused(x, api.ErrTwice))
		adds(t, r, []node{nodeOf(t, with(m, "body", "b"))}, api.Verdict{ID: x.id, Redacted: true, Err: api.ErrTwice})
		has(t, r, v, "!r:o", x, y)
		if isOwn(v) { // another event that brings the same ID, of this room or of another one
			for _, other := range []fields{with(bare(v, 3), "event_id", x.id), with(bare(v, 1), "room_id", "!R:o"), with(bare(v, 1), "content", fields{})} {
				adds(t, r, []node{nodeOf(t, signed(t, v, hashed(t, other)))}, refused(x, api.ErrTwice))
				has(t, r, v, "!r:o", x, y)
			}
		}
	}
}

func TestP47_2AnotherRoom(t *testing.T) {
	for v := 1; v <= 11; v++ {
		x, y, z := entryOf(t, v, whole(t, v, 1)), entryOf(t, v, elsewhere(t, v, 2)), entryOf(t, v, whole(t, v, 3))
		r := newRoom(t, v, ringOf(t))
		adds(t, r, []node{x.event, y.event, z.event, y.event}, passes(x), refused(y, api.ErrID), passes(z), refused(y, api.ErrID))
		has(t, r, v, "!r:o", x, z)
		other := with(elsewhere(t, v, 2), "body", "b")
		adds(t, r, []node{nodeOf(t, other)}, api.Verdict{ID: y.id, Redacted: true, Err: api.ErrID})
		has(t, r, v, "!r:o", x, z)
		// The first event that is here says which room it is, also once it is redacted.
		r = newRoom(t, v, ringOf(t))
		adds(t, r, []node{nodeOf(t, without(whole(t, v, 4), "depth")), nodeOf(t, with(whole(t, v, 4), "signatures", fields{}))}, api.Verdict{Err: api.ErrField}, api.Verdict{ID: idOf(t, v, whole(t, v, 4)), Err: api.ErrNone})
		adds(t, r, []node{y.event, x.event, z.event}, passes(y), refused(x, api.ErrID), refused(z, api.ErrID))
		has(t, r, v, "!R:o", y)
		redacts(t, r, y.id, api.OK)
		adds(t, r, []node{x.event}, refused(x, api.ErrID))
		has(t, r, v, "!R:o", keptOf(t, v, elsewhere(t, v, 2)))
	}
}

// bad are events that are refused by themselves.
func bad(t *testing.T, v int) []node {
	t.Helper()
	m := whole(t, v, 1)
	n := nodeOf(t, m)
	return []node{
		{}, tree.Null(), tree.Int(1), tree.List(n), tree.Map(), tree.Put(n, "x", node{}), tree.Put(n, "depth", tree.Int(-1)), tree.Without(n, "sender"), tree.Put(n, "room_id", tree.Text("r")),
		tree.Put(n, "signatures", tree.Map()), tree.Put(n, "depth", tree.Int(77)), tree.Put(n, "sender", tree.Text("@s:c.d")), nodeOf(t, with(m, "event_id", "e")), nodeOf(t, with(m, "body", strings.Repeat("x", api.MaxEvent))),
	}
}

func TestP47_2WhatIsRefusedByItself(t *testing.T) {
	ring := ringOf(t)
	for v := 1; v <= 11; v++ {
		x, empty, full := entryOf(t, v, whole(t, v, 1)), newRoom(t, v, ring), newRoom(t, v, ring)
		full.Add(x.event)
		l := bad(t, v)
		var want []api.Verdict
		for _, n := range l {
			y, _ := verdict.Judge(v, ring, n)
			if want = append(want, y); y.Err == api.OK {
				t.Errorf("%+v", n)
			}
		}
		adds(t, empty, l, want...)
		has(t, empty, v, "")
		adds(t, full, l, want...)
		has(t, full, v, "!r:o", x)
		y := entryOf(t, v, whole(t, v, 2))
		adds(t, full, append(l, y.event), append(want, passes(y))...)
		has(t, full, v, "!r:o", x, y)
	}
	adds(t, newRoom(t, 11, nil), []node{tree.Int(1)}, api.Verdict{Err: api.ErrType})
}

func TestP47_3Redact(t *testing.T) {
	for v := 1; v <= 11; v++ {
		r := newRoom(t, v, ringOf(t))
		var l []entry
		for i := range 3 {
			l = append(l, entryOf(t, v, whole(t, v, i)))
			r.Add(l[i].event)
		}
		for _, id := range []string{"", "$", l[0].id + "x", strings.ToUpper(l[1].id) + ":", idOf(t, v, whole(t, v, 4))} {
			redacts(t, r, id, api.ErrNone)
		}
		has(t, r, v, "!r:o", l...)
		for _, i := range []int{1, 0, 2} {
			for range 2 {
				redacts(t, r, l[i].id, api.OK)
				want := keptOf(t, v, whole(t, v, i))
				if tree.Same(want.event, entryOf(t, v, whole(t, v, i)).event) {
					t.Error("nothing is left out of", i)
				}
				l[i] = want
				has(t, r, v, "!r:o", l...)
			}
			adds(t, r, []node{nodeOf(t, whole(t, v, i))}, refused(l[i], api.ErrTwice))
			has(t, r, v, "!r:o", l...)
		}
		x := entryOf(t, v, whole(t, v, 4))
		adds(t, r, []node{x.event}, passes(x))
		has(t, r, v, "!r:o", append(l, x)...)
	}
}

// The graph has the events in the order in which they came, whatever they name.
func TestP47_3Graph(t *testing.T) {
	for v := 1; v <= 11; v++ {
		a := whole(t, v, 1)
		b := naming(t, v, 2, idOf(t, v, a), idOf(t, v, whole(t, v, 8)))
		c := naming(t, v, 3, idOf(t, v, b), idOf(t, v, a))
		x, y, z := entryOf(t, v, a), entryOf(t, v, b), entryOf(t, v, c)
		r := newRoom(t, v, ringOf(t))
		r.Add(z.event, x.event)
		before := r.Graph()
		r.Add(y.event)
		has(t, r, v, "!r:o", z, x, y)
		taken, all := r.Graph().Order()
		if !slices.Equal(taken, []string{x.id, y.id, z.id}) || !all || !slices.Equal(r.Graph().Heads(), []string{z.id}) || !slices.Equal(r.Graph().Missing(), []string{idOf(t, v, whole(t, v, 8))}) {
			t.Errorf("%q, %v, %q, %q", taken, all, r.Graph().Heads(), r.Graph().Missing())
		}
		if before.Len() != 2 {
			t.Error(before.IDs())
		}
		redacts(t, r, y.id, api.OK)
		has(t, r, v, "!r:o", z, x, keptOf(t, v, b))
	}
}

func TestP47_3Copy(t *testing.T) {
	for v := 1; v <= 11; v++ {
		var l []entry
		for i := range 8 {
			l = append(l, entryOf(t, v, whole(t, v, i)))
		}
		r := newRoom(t, v, ringOf(t))
		early := r.Copy()
		r.Add(l[0].event, l[1].event, l[2].event)
		c := r.Copy()
		adds(t, r, []node{l[3].event}, passes(l[3]))
		adds(t, c, []node{l[4].event, l[3].event}, passes(l[4]), passes(l[3]))
		adds(t, r, []node{l[5].event}, passes(l[5]))
		redacts(t, c, l[1].id, api.OK)
		redacts(t, c, l[5].id, api.ErrNone)
		redacts(t, r, l[2].id, api.OK)
		of := func(i int) entry { return keptOf(t, v, whole(t, v, i)) }
		has(t, r, v, "!r:o", l[0], l[1], of(2), l[3], l[5])
		has(t, c, v, "!r:o", l[0], of(1), l[2], l[4], l[3])
		has(t, early, v, "")
		y := entryOf(t, v, elsewhere(t, v, 6))
		adds(t, early, []node{y.event, l[0].event}, passes(y), refused(l[0], api.ErrID))
		has(t, early, v, "!R:o", y)
		d := c.Copy()
		has(t, d, v, "!r:o", l[0], of(1), l[2], l[4], l[3])
		adds(t, d, []node{l[0].event, l[1].event, y.event}, refused(l[0], api.ErrTwice), refused(l[1], api.ErrTwice), refused(y, api.ErrID))
	}
}

func TestP47_4NilRoom(t *testing.T) {
	var r *room.Room
	x := nodeOf(t, whole(t, 3, 1))
	if l := r.Add(x, tree.Null()); len(l) != 0 {
		t.Error(l)
	}
	redacts(t, r, "", api.ErrArg)
	redacts(t, r, idOf(t, 3, whole(t, 3, 1)), api.ErrArg)
	if n, ok := r.Event("$e:a.b"); ok || !tree.Exact(n, node{}) {
		t.Error(n, ok)
	}
	if len(r.IDs()) != 0 || r.Len() != 0 || r.Name() != "" || r.Version() != 0 || r.Graph() != nil || r.Copy() != nil {
		t.Error(r.IDs(), r.Len(), r.Name(), r.Version(), r.Graph(), r.Copy())
	}
}

func TestP47_5WhateverOrder(t *testing.T) {
	rnd := rand.New(rand.NewSource(475))
	for v := 1; v <= 11; v++ {
		ring, want := ringOf(t), map[string]node{}
		var l []node
		for i := range 5 {
			x := entryOf(t, v, whole(t, v, i))
			if i == 3 {
				other := with(whole(t, v, i), "body", "b")
				x = keptOf(t, v, other)
				l = append(l, nodeOf(t, other))
			} else {
				l = append(l, x.event)
			}
			want[x.id] = x.event
		}
		for range 3 {
			rnd.Shuffle(len(l), func(i, j int) { l[i], l[j] = l[j], l[i] })
			r := newRoom(t, v, ring)
			first := r.Add(l...)
			r.Add(l[rnd.Intn(5)])
			if r.Len() != 5 || r.Name() != "!r:o" {
				t.Errorf("%d: %q", v, r.IDs())
			}
			for i, id := range r.IDs() {
				n, ok := r.Event(id)
				if !ok || !tree.Same(n, want[id]) || first[i].ID != id || first[i].Err != api.OK {
					t.Errorf("%s: %+v, not %+v", id, n, want[id])
				}
			}
		}
	}
}

// reckoning is a room by the chapter's words, with the verdicts on what may come.
type reckoning struct {
	v    int
	name string
	l    []entry
}

func (k *reckoning) at(id string) int {
	return slices.IndexFunc(k.l, func(x entry) bool { return x.id == id })
}

func (k *reckoning) add(x api.Verdict, taken node) api.Verdict {
	if x.Err != api.OK {
		return x
	}
	name, _ := tree.Get(taken, "room_id")
	if k.at(x.ID) >= 0 {
		x.Err = api.ErrTwice
	} else if len(k.l) > 0 && name.S != k.name {
		x.Err = api.ErrID
	} else {
		k.l, k.name = append(k.l, entry{x.ID, taken}), name.S
	}
	return x
}

func (k *reckoning) redact(id string) api.Errno {
	i := k.at(id)
	if i < 0 {
		return api.ErrNone
	}
	k.l = slices.Clone(k.l)
	k.l[i].event, _ = redact.Redact(k.v, k.l[i].event)
	return api.OK
}

// Rooms and their copies do what the reckoning does, whatever comes.
func TestP47_2AnyRooms(t *testing.T) {
	rnd := rand.New(rand.NewSource(472))
	for v := 1; v <= 11; v++ {
		ring := ringOf(t)
		var pool []node
		for i := range 4 {
			m := whole(t, v, i)
			pool = append(pool, nodeOf(t, m), nodeOf(t, m), nodeOf(t, with(m, "body", i)), nodeOf(t, elsewhere(t, v, i)))
		}
		pool = append(pool, bad(t, v)[rnd.Intn(8):]...)
		var judged []api.Verdict
		var taken []node
		for _, n := range pool {
			x, n := verdict.Judge(v, ring, n)
			judged, taken = append(judged, x), append(taken, n)
		}
		for range 2 {
			rooms, reckonings := []*room.Room{newRoom(t, v, ring)}, []*reckoning{{v: v}}
			for range 15 {
				at := rnd.Intn(len(rooms))
				r, k := rooms[at], reckonings[at]
				switch rnd.Intn(5) {
				case 0:
					c := *k
					c.l = slices.Clone(c.l)
					rooms, reckonings = append(rooms, r.Copy()), append(reckonings, &c)
				case 1:
					id := judged[rnd.Intn(len(pool))].ID
					redacts(t, r, id, k.redact(id))
				default:
					var l []node
					var want []api.Verdict
					for range rnd.Intn(4) {
						i := rnd.Intn(len(pool))
						l, want = append(l, pool[i]), append(want, k.add(judged[i], taken[i]))
					}
					adds(t, r, l, want...)
				}
			}
			for i, r := range rooms {
				has(t, r, v, reckonings[i].name, reckonings[i].l...)
			}
		}
	}
}

// spoil writes into all lists of a node.
func spoil(n node) {
	for i := range n.L {
		spoil(n.L[i])
		n.L[i] = tree.Int(666)
	}
	for i := range n.K {
		n.K[i] = "spoilt"
	}
}

func TestP47WhatIsHandedInIsNotChangedNorKept(t *testing.T) {
	for v := 1; v <= 11; v++ {
		a, b := whole(t, v, 1), with(whole(t, v, 2), "body", "b")
		x, y := entryOf(t, v, a), keptOf(t, v, b)
		l := append(make([]node, 0, 9), nodeOf(t, a), nodeOf(t, b), tree.Null())
		r := newRoom(t, v, ringOf(t))
		r.Add(l...)
		redacts(t, r.Copy(), x.id, api.OK)
		if !tree.Exact(l[0], nodeOf(t, a)) || !tree.Exact(l[1], nodeOf(t, b)) || !tree.Exact(tree.List(l[3:9]...), tree.List(make([]node, 6)...)) {
			t.Errorf("%+v", l[:9])
		}
		spoil(l[0])
		spoil(l[1])
		clear(l)
		has(t, r, v, "!r:o", x, y)
		redacts(t, r, x.id, api.OK)
		has(t, r, v, "!r:o", keptOf(t, v, a), y)
	}
}

// What is answered doesn't tell on what is answered later, nor does this on that.
func TestP47AnswersStay(t *testing.T) {
	r := newRoom(t, 3, ringOf(t))
	var l []entry
	for _, number := range []int{0, 1, 2, 4, 5, 7} {
		l = append(l, entryOf(t, 3, whole(t, 3, number)))
	}
	// Of any number of events, as a list may have spare room.
	for i, x := range l {
		ids, g := r.IDs(), r.Graph()
		more := append(ids, "mine")
		first := r.Add(x.event)
		event, _ := r.Event(x.id)
		redacts(t, r, x.id, api.OK)
		if len(more) != i+1 || more[i] != "mine" || g.Len() != i || first[0] != passes(x) || !tree.Exact(event, x.event) {
			t.Errorf("%q, %d, %+v, %+v", more, g.Len(), first, event)
		}
		clear(more)
		clear(ids)
		l[i] = keptOf(t, 3, whole(t, 3, []int{0, 1, 2, 4, 5, 7}[i]))
		has(t, r, 3, "!r:o", l[:i+1]...)
	}
}

func TestP7EveryCallEnds(t *testing.T) {
	deep := tree.Null()
	for range 100000 {
		deep = tree.List(deep)
	}
	for i := range 64 {
		for _, v := range []int{1 << i, 1<<i - 1, -1 << i, i} {
			r, _ := room.New(v, nil)
			for kind := -1; kind < 8; kind++ {
				n := node{Kind: kind, N: int64(v), S: "\xff"[:i%2], K: []string{"a", "a"}[:i%3], L: make([]node, i%4)}
				r.Add(n, deep, node{Kind: kind, L: []node{deep}})
				r.Redact(string(rune(i)))
				r.Event(n.S)
			}
			r.Copy().Graph()
			if r.Len()+len(r.IDs())+len(r.Name()) != 0 {
				t.Error(r.IDs())
			}
		}
	}
}
