package audit_test

import (
	"bytes"
	"crypto/ed25519"
	"crypto/sha256"
	"encoding/base64"
	"encoding/json"
	"maps"
	"math/rand"
	"slices"
	"strconv"
	"strings"
	"testing"

	"sealring/api"
	"sealring/audit"
	"sealring/keyring"
	"sealring/parse"
	"sealring/room"
	"sealring/tree"
)

type (
	node    = api.Node
	finding = audit.Finding
	fields  = map[string]any
	list    = []any
)

func isOwn(v int) bool { return v <= 2 }

// form is a value's one form, by the library's means.
func form(t *testing.T, value any) string {
	t.Helper()
	var b bytes.Buffer
	w := json.NewEncoder(&b)
	w.SetEscapeHTML(false)
	if e := w.Encode(value); e != nil {
		t.Fatal(e)
	}
	return strings.TrimSuffix(b.String(), "\n")
}

func nodeOf(t *testing.T, m fields) node {
	t.Helper()
	n, _, e := parse.Parse(form(t, m))
	if e != api.OK {
		t.Fatalf("%v: %d", m, e)
	}
	return n
}

// with is a copy of m whose fields are these, two by two.
func with(m fields, l ...any) fields {
	m = maps.Clone(m)
	for i := 0; i < len(l); i += 2 {
		m[l[i].(string)] = l[i+1]
	}
	return m
}

func without(m fields, keys ...string) fields {
	m = maps.Clone(m)
	for _, key := range keys {
		delete(m, key)
	}
	return m
}

// key is the one by which events are signed here, by the library's means.
func key() ed25519.PrivateKey { return ed25519.NewKeyFromSeed(bytes.Repeat([]byte{8}, 32)) }

func base64Of(b []byte) string { return base64.RawStdEncoding.EncodeToString(b) }

func hashOf(t *testing.T, m fields) []byte {
	t.Helper()
	hash := sha256.Sum256([]byte(form(t, m)))
	return hash[:]
}

// event is one of a room, by what names it and what it names.
type event struct {
	id         string
	depth      int64
	prev, auth []string
	whole      fields
}

// kept is what each version keeps of an event of a type that it doesn't know.
func kept(m fields) fields { return with(without(m, "body"), "content", fields{}) }

// names are as a version names events.
func names(v int, ids []string) list {
	l := list{}
	for _, id := range ids {
		if isOwn(v) {
			l = append(l, list{id, fields{"sha256": base64Of(make([]byte, 32))}})
		} else {
			l = append(l, id)
		}
	}
	return l
}

// eventOf is an event that passes; in own versions it has the ID that is told, in others that of its hash.
func eventOf(t *testing.T, v int, id string, depth int64, prev, auth []string) event {
	t.Helper()
	m := fields{
		"type": "x", "room_id": "!r:o", "sender": "@s:a.b", "depth": depth, "origin_server_ts": 8, "body": id,
		"content": fields{"depth": 3}, "prev_events": names(v, prev), "auth_events": names(v, auth),
	}
	if isOwn(v) {
		m["event_id"] = id
	}
	m["hashes"] = fields{"sha256": base64Of(hashOf(t, m))}
	hash := hashOf(t, kept(m))
	switch {
	case v == 3:
		id = "$" + base64Of(hash)
	case !isOwn(v):
		id = "$" + base64.RawURLEncoding.EncodeToString(hash)
	}
	signature := ed25519.Sign(key(), []byte(form(t, kept(m))))
	return event{id, depth, prev, auth, with(m, "signatures", fields{"a.b": fields{"ed25519:1": base64Of(signature)}})}
}

// idOf is an ID of a version's, of none of the events here.
func idOf(v, number int) string {
	if isOwn(v) {
		return "$gone" + strconv.Itoa(number) + ":a.b"
	}
	hash := sha256.Sum256([]byte(strconv.Itoa(number)))
	return "$" + strings.NewReplacer("+", "a", "/", "b").Replace(base64Of(hash[:]))
}

func idsOf(v, many int) []string {
	var l []string
	for i := range many {
		l = append(l, idOf(v, i))
	}
	return l
}

func newRoom(t *testing.T, v int) *room.Room {
	t.Helper()
	ring := keyring.New()
	if e := ring.Put("a.b", "ed25519:1", string(key().Public().(ed25519.PublicKey))); e != api.OK {
		t.Fatal(e)
	}
	r, e := room.New(v, ring)
	if r == nil || e != api.OK {
		t.Fatal(v, e)
	}
	return r
}

// add adds events, all of which come in.
func add(t *testing.T, r *room.Room, l ...event) {
	t.Helper()
	for _, x := range l {
		if got := r.Add(nodeOf(t, x.whole)); !slices.Equal(got, []api.Verdict{{ID: x.id}}) {
			t.Fatalf("%+v, not %s", got, x.id)
		}
	}
}

func roomOf(t *testing.T, v int, l ...event) *room.Room {
	t.Helper()
	r := newRoom(t, v)
	add(t, r, l...)
	return r
}

// finds asks for all that is odd, and whether something is; twice over, as nothing may hang on what was answered.
func finds(t *testing.T, r *room.Room, want ...finding) {
	t.Helper()
	for range 2 {
		got := audit.Room(r)
		if !slices.Equal(got, want) {
			t.Errorf("Room: %+v, not %+v", got, want)
		}
		if sound := audit.Sound(r); sound != (len(want) == 0) {
			t.Errorf("Sound: %v, where there are %+v", sound, want)
		}
		clear(got)
	}
}

func TestP48_1WithoutEvents(t *testing.T) {
	finds(t, nil)
	for v := 1; v <= 11; v++ {
		finds(t, newRoom(t, v))
		r, _ := room.New(v, nil)
		finds(t, r)
		finds(t, r.Copy())
	}
}

func TestP48_1NothingOdd(t *testing.T) {
	for v := 1; v <= 11; v++ {
		a := eventOf(t, v, "$a:x", 0, nil, nil)
		b := eventOf(t, v, "$b:x", 1, []string{a.id}, []string{a.id})
		c := eventOf(t, v, "$c:x", 1, []string{a.id}, []string{b.id})
		d := eventOf(t, v, "$d:x", api.MaxInt, []string{c.id, b.id, a.id}, []string{c.id, a.id, b.id})
		finds(t, roomOf(t, v, a))
		finds(t, roomOf(t, v, a, b, c, d))
		// What is named may come behind what names it.
		finds(t, roomOf(t, v, d, b, a, c))
	}
}

func TestP48_1Missing(t *testing.T) {
	for v := 1; v <= 11; v++ {
		l := idsOf(v, 20)
		x := eventOf(t, v, "$x:x", 5, l, nil)
		y := eventOf(t, v, "$y:x", 0, []string{l[3]}, nil)
		var want []finding
		for _, id := range l {
			want = append(want, finding{ID: x.id, What: "missing", Other: id})
		}
		finds(t, roomOf(t, v, x), want...)
		finds(t, roomOf(t, v, y, x), append([]finding{{y.id, "missing", l[3]}}, want...)...)
		slices.Reverse(l)
		slices.Reverse(want)
		z := eventOf(t, v, "$x:x", 5, l, nil)
		for i := range want {
			want[i].ID = z.id
		}
		finds(t, roomOf(t, v, z), want...)
	}
}

func TestP48_1WhatIsMissingMayCome(t *testing.T) {
	for v := 1; v <= 11; v++ {
		a := eventOf(t, v, "$a:x", 3, nil, nil)
		b := eventOf(t, v, "$b:x", 4, []string{a.id}, nil)
		c := eventOf(t, v, "$c:x", 2, []string{a.id}, []string{b.id, a.id})
		r := newRoom(t, v)
		add(t, r, c)
		finds(t, r, finding{c.id, "missing", a.id}, finding{c.id, "auth", b.id}, finding{c.id, "auth", a.id})
		early := r.Copy()
		add(t, r, b)
		finds(t, r, finding{c.id, "missing", a.id}, finding{c.id, "auth", a.id}, finding{b.id, "missing", a.id})
		add(t, r, a)
		finds(t, r, finding{c.id, "depth", a.id})
		finds(t, early, finding{c.id, "missing", a.id}, finding{c.id, "auth", b.id}, finding{c.id, "auth", a.id})
	}
}

func TestP48_1Depth(t *testing.T) {
	depths := [][2]int64{{0, 0}, {0, 1}, {1, 0}, {7, 8}, {8, 7}, {1, api.MaxInt}, {api.MaxInt, 1}, {api.MaxInt, api.MaxInt}, {api.MaxInt - 1, api.MaxInt}, {api.MaxInt, api.MaxInt - 1}, {1 << 32, 1}, {1, 1 << 32}}
	for v := 1; v <= 11; v++ {
		var l []event
		var want []finding
		for i, d := range depths {
			a := eventOf(t, v, "$a"+strconv.Itoa(i)+":x", d[0], nil, nil)
			b := eventOf(t, v, "$b"+strconv.Itoa(i)+":x", d[1], []string{a.id}, []string{a.id})
			if l = append(l, b, a); d[1] <= d[0] {
				want = append(want, finding{b.id, "depth", a.id})
			}
		}
		finds(t, roomOf(t, v, l...), want...)
	}
}

// What allows an event may stand as deep as it, or deeper.
func TestP48_1DepthOfWhatAllows(t *testing.T) {
	for v := 1; v <= 11; v++ {
		a, b := eventOf(t, v, "$a:x", 5, nil, nil), eventOf(t, v, "$b:x", 6, nil, nil)
		finds(t, roomOf(t, v, a, b, eventOf(t, v, "$c:x", 5, nil, []string{b.id, a.id})))
	}
}

func TestP48_1Auth(t *testing.T) {
	for v := 1; v <= 11; v++ {
		l := idsOf(v, 10)
		x := eventOf(t, v, "$x:x", 5, nil, l)
		var want []finding
		for _, id := range l {
			want = append(want, finding{x.id, "auth", id})
		}
		finds(t, roomOf(t, v, x), want...)
		a := eventOf(t, v, "$a:x", 9, nil, nil)
		y := eventOf(t, v, "$y:x", 0, nil, []string{l[1], a.id, l[0]})
		finds(t, roomOf(t, v, y, a), finding{y.id, "auth", l[1]}, finding{y.id, "auth", l[0]})
	}
}

// One is told with what is told first, event by event as they came.
func TestP48_1InOrder(t *testing.T) {
	for v := 1; v <= 11; v++ {
		l := idsOf(v, 4)
		a := eventOf(t, v, "$z:x", 7, []string{l[0]}, []string{l[0]})
		b := eventOf(t, v, "$b:x", 7, []string{l[3], a.id, l[2]}, []string{l[2], a.id, l[1]})
		c := eventOf(t, v, "$a:x", 6, []string{b.id, l[1], a.id}, []string{l[3]})
		ofA := []finding{{a.id, "missing", l[0]}, {a.id, "auth", l[0]}}
		ofB := []finding{{b.id, "missing", l[3]}, {b.id, "depth", a.id}, {b.id, "missing", l[2]}, {b.id, "auth", l[2]}, {b.id, "auth", l[1]}}
		ofC := []finding{{c.id, "depth", b.id}, {c.id, "missing", l[1]}, {c.id, "depth", a.id}, {c.id, "auth", l[3]}}
		finds(t, roomOf(t, v, a, b, c), slices.Concat(ofA, ofB, ofC)...)
		finds(t, roomOf(t, v, c, b, a), slices.Concat(ofC, ofB, ofA)...)
		finds(t, roomOf(t, v, b, c, a), slices.Concat(ofB, ofC, ofA)...)
	}
}

// Events that bring their IDs may lead to themselves.
func TestP48_1Rings(t *testing.T) {
	for v := 1; v <= 2; v++ {
		itself := eventOf(t, v, "$i:x", 4, []string{"$i:x"}, []string{"$i:x"})
		finds(t, roomOf(t, v, itself), finding{"$i:x", "depth", "$i:x"}, finding{"$i:x", "ring", ""})
		// What allows an event makes no ring.
		finds(t, roomOf(t, v, eventOf(t, v, "$i:x", 4, nil, []string{"$i:x"})))
		finds(t, roomOf(t, v, eventOf(t, v, "$i:x", 4, []string{"$j:x"}, nil), eventOf(t, v, "$j:x", 3, nil, []string{"$i:x"})))

		a := eventOf(t, v, "$a:x", 1, []string{"$c:x", "$gone:x"}, []string{"$gone:x"})
		b := eventOf(t, v, "$b:x", 2, []string{"$a:x"}, nil)
		c := eventOf(t, v, "$c:x", 3, []string{"$b:x"}, []string{"$b:x"})
		before := eventOf(t, v, "$before:x", 0, nil, nil)                // what leads to no ring
		to := eventOf(t, v, "$0:x", 9, []string{"$c:x"}, nil)            // what leads to one
		from := eventOf(t, v, "$z:x", 0, []string{"$y:x"}, nil)          // what a ring leads to
		pair := eventOf(t, v, "$y:x", 1, []string{"$z:x", "$x:x"}, nil)  // another ring
		other := eventOf(t, v, "$x:x", 2, []string{"$y:x", "$a:x"}, nil) // that leads to the first one
		l := []finding{{"$a:x", "depth", "$c:x"}, {"$a:x", "missing", "$gone:x"}, {"$a:x", "auth", "$gone:x"}, {"$a:x", "ring", ""}, {"$b:x", "ring", ""}, {"$c:x", "ring", ""}}
		finds(t, roomOf(t, v, a, b, c), l...)
		finds(t, roomOf(t, v, before, to, a, b, c), l...)
		finds(t, roomOf(t, v, c, to, a, before, b), l[5], l[0], l[1], l[2], l[3], l[4])
		finds(t, roomOf(t, v, a, b), finding{"$a:x", "missing", "$c:x"}, l[1], l[2])
		finds(t, roomOf(t, v, a, pair, b, other, c, from), slices.Concat(l[:4], []finding{{"$y:x", "depth", "$x:x"}, {"$y:x", "ring", ""}}, l[4:5], []finding{{"$x:x", "ring", ""}}, l[5:], []finding{{"$z:x", "depth", "$y:x"}, {"$z:x", "ring", ""}})...)
	}
}

// What is kept of an event is as odd as it was.
func TestP48_1WhatIsRedacted(t *testing.T) {
	for v := 1; v <= 11; v++ {
		a := eventOf(t, v, "$a:x", 3, idsOf(v, 2), nil)
		b := eventOf(t, v, "$b:x", 3, []string{a.id}, idsOf(v, 1))
		want := []finding{{a.id, "missing", idOf(v, 0)}, {a.id, "missing", idOf(v, 1)}, {b.id, "depth", a.id}, {b.id, "auth", idOf(v, 0)}}
		r := roomOf(t, v, a, b)
		finds(t, r, want...)
		for _, id := range []string{a.id, b.id} {
			if e := r.Redact(id); e != api.OK {
				t.Error(e)
			}
			finds(t, r, want...)
		}
		// One that comes in redacted, with other fields of the same names within.
		r = newRoom(t, v)
		l := []node{nodeOf(t, with(a.whole, "content", fields{"depth": 9, "prev_events": list{}})), nodeOf(t, with(b.whole, "body", fields{"depth": 0, "auth_events": list{}}))}
		if x := r.Add(l...); !slices.Equal(x, []api.Verdict{{ID: a.id, Redacted: true}, {ID: b.id, Redacted: true}}) {
			t.Errorf("%+v", x)
		}
		finds(t, r, want...)
	}
}

// reckoned is what is odd by the chapter's words, of events as they came.
func reckoned(l []event) []finding {
	at := func(id string) int { return slices.IndexFunc(l, func(x event) bool { return x.id == id }) }
	leads := func(from string) []string { // what is still to be asked stands behind what was
		met := []string{from}
		var out []string
		for i := 0; i < len(met); i++ {
			if at(met[i]) < 0 {
				continue
			}
			for _, id := range l[at(met[i])].prev {
				if out = append(out, id); !slices.Contains(met, id) {
					met = append(met, id)
				}
			}
		}
		return out
	}
	var out []finding
	for _, x := range l {
		for _, id := range x.prev {
			if i := at(id); i < 0 {
				out = append(out, finding{x.id, "missing", id})
			} else if l[i].depth >= x.depth {
				out = append(out, finding{x.id, "depth", id})
			}
		}
		for _, id := range x.auth {
			if at(id) < 0 {
				out = append(out, finding{x.id, "auth", id})
			}
		}
		if slices.Contains(leads(x.id), x.id) {
			out = append(out, finding{x.id, "ring", ""})
		}
	}
	return out
}

// anyOf are some of these, in any order.
func anyOf(r *rand.Rand, ids []string, most int) []string {
	var l []string
	for _, i := range r.Perm(len(ids))[:r.Intn(min(len(ids), most)+1)] {
		l = append(l, ids[i])
	}
	return l
}

// anyEvents are some events, that name one another and some that aren't here; in own versions also in rings.
func anyEvents(t *testing.T, r *rand.Rand, v int) []event {
	t.Helper()
	ids := idsOf(v, r.Intn(2))
	many := r.Intn(9)
	if isOwn(v) {
		for i := range many {
			ids = append(ids, "$"+strconv.Itoa(i)+":x")
		}
	}
	var l []event
	for i := range many {
		x := eventOf(t, v, "$"+strconv.Itoa(i)+":x", int64(i+r.Intn(3)), anyOf(r, ids, 3), anyOf(r, ids, 2))
		if l = append(l, x); !isOwn(v) {
			ids = append(ids, x.id)
		}
	}
	r.Shuffle(len(l), func(i, j int) { l[i], l[j] = l[j], l[i] })
	return l
}

func TestP48_1AnyRooms(t *testing.T) {
	rnd := rand.New(rand.NewSource(481))
	met := map[string]int{}
	for i := range 120 {
		v := i%11 + 1
		l := anyEvents(t, rnd, v)
		r, want := roomOf(t, v, l...), reckoned(l)
		finds(t, r, want...)
		for _, f := range want {
			met[f.What]++
		}
		if len(want) == 0 {
			met["sound"]++
		}
	}
	for _, what := range []string{"missing", "depth", "auth", "ring", "sound"} {
		if met[what] < 10 {
			t.Errorf("%s: %d", what, met[what])
		}
	}
}

// In a sound room nothing is missing, and the order has all.
func TestP48_3SoundRooms(t *testing.T) {
	rnd := rand.New(rand.NewSource(483))
	sound := 0
	for i := range 200 {
		v := i%11 + 1
		var l []event
		var ids []string
		for number := range rnd.Intn(6) {
			x := eventOf(t, v, "$"+strconv.Itoa(number)+":x", int64(number+rnd.Intn(2)), anyOf(rnd, ids, 2), anyOf(rnd, ids, 2))
			l, ids = append(l, x), append(ids, x.id)
		}
		r := roomOf(t, v, l...)
		if !audit.Sound(r) {
			continue
		}
		sound++
		taken, all := r.Graph().Order()
		if missing := r.Graph().Missing(); len(missing) != 0 || !all || len(taken) != len(l) {
			t.Errorf("%q, %q, %v of %d", missing, taken, all, len(l))
		}
	}
	if sound < 50 {
		t.Error(sound)
	}
}

// A room that is looked at is as it was.
func TestP48TheRoomStays(t *testing.T) {
	for v := 1; v <= 11; v++ {
		a := eventOf(t, v, "$a:x", 3, idsOf(v, 2), nil)
		b := eventOf(t, v, "$b:x", 3, []string{a.id}, idsOf(v, 1))
		r := roomOf(t, v, a, b)
		audit.Room(r)
		audit.Sound(r)
		for _, x := range []event{a, b} {
			if n, ok := r.Event(x.id); !ok || !tree.Exact(n, nodeOf(t, x.whole)) {
				t.Errorf("%+v", n)
			}
		}
		if !slices.Equal(r.IDs(), []string{a.id, b.id}) || r.Version() != v {
			t.Error(r.IDs(), r.Version())
		}
	}
}

// Long ways and great rings are gone through in no time that counts.
func TestP48Much(t *testing.T) {
	const many = 300
	for _, v := range []int{2, 3} {
		var l []event
		var prev []string
		for i := range many {
			x := eventOf(t, v, "$"+strconv.Itoa(i)+":x", int64(i), prev, prev)
			l, prev = append(l, x), []string{x.id}
		}
		finds(t, roomOf(t, v, l...))
		if !isOwn(v) {
			continue
		}
		l[0] = eventOf(t, v, "$0:x", many, prev, prev)
		want := []finding{{"$0:x", "ring", ""}, {"$1:x", "depth", "$0:x"}}
		for _, x := range l[1:] {
			want = append(want, finding{x.id, "ring", ""})
		}
		finds(t, roomOf(t, v, l...), want...)
	}
}
