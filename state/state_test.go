package state_test

import (
	"encoding/base64"
	"maps"
	"math"
	"math/rand"
	"slices"
	"strconv"
	"strings"
	"testing"

	"sealring/api"
	"sealring/eventid"
	"sealring/state"
	"sealring/tree"
)

type (
	node = api.Node
	key  = state.Key
)

var noVersions = []int{0, -1, 12, 13, 100, math.MinInt, math.MaxInt}

func mapOf(keys []string, values ...node) node { return node{Kind: api.Map, K: keys, L: values} }

func names(l ...string) []string { return l }

// prevOf is a List that names events, as a version names them.
func prevOf(v int, ids ...string) node {
	l := tree.List()
	for _, id := range ids {
		n := tree.Text(id)
		if v <= 2 {
			n = tree.List(n, tree.Map(tree.Text("sha256"), tree.Text(strings.Repeat("A", 43))))
		}
		l.L = append(l.L, n)
	}
	return l
}

// plain is an event of a version up to 2 that is no state event.
func plain(id string, prev ...string) node {
	return tree.Map(tree.Text("event_id"), tree.Text(id), tree.Text("prev_events"), prevOf(1, prev...))
}

// typed makes of an event a state event.
func typed(n node, k key) node {
	return tree.Put(tree.Put(n, "type", tree.Text(k.Type)), "state_key", tree.Text(k.Key))
}

// event is a state event of a version up to 2.
func event(id, kind, name string, prev ...string) node {
	return typed(plain(id, prev...), key{kind, name})
}

// entry is what a state has of a Key.
type entry struct {
	key
	id string
}

// asks asks a state for all that it has, in order, twice over, within itself, and left at each place.
func asks(t *testing.T, s *state.State, want ...entry) {
	t.Helper()
	if s.Len() != len(want) {
		t.Errorf("Len: %d, not %d", s.Len(), len(want))
	}
	for leave := 1; leave <= len(want); leave++ {
		var seen []entry
		for k, id := range s.All() {
			if seen = append(seen, entry{k, id}); len(seen) == leave {
				break
			}
		}
		if !slices.Equal(seen, want[:leave]) {
			t.Errorf("All, left: %q, not %q", seen, want[:leave])
		}
	}
	all := s.All()
	for range 2 {
		at := 0
		for k, id := range all {
			if at == len(want) || want[at] != (entry{k, id}) {
				t.Errorf("All: %q, %q at %d, not as of %q", k, id, at, want)
				break
			}
			at++
		}
		if at != len(want) {
			t.Errorf("All: %d, not %d", at, len(want))
		}
	}
	for _, e := range want {
		gets(t, s, e.key, e.id, true)
	}
}

func gets(t *testing.T, s *state.State, k key, want string, there bool) {
	t.Helper()
	if id, ok := s.Get(k); id != want || ok != there {
		t.Errorf("Get(%q): %q, %v, not %q, %v", k, id, ok, want, there)
	}
}

func same(t *testing.T, a, b *state.State, want bool) {
	t.Helper()
	if state.Same(a, b) != want || state.Same(b, a) != want {
		t.Errorf("Same isn't %v", want)
	}
}

func of(t *testing.T, v int, l ...node) *state.State {
	t.Helper()
	s, e := state.Of(v, l...)
	if s == nil || e != api.OK {
		t.Fatalf("Of(%d) of %d: %d", v, len(l), e)
	}
	return s
}

func at(t *testing.T, v int, id string, l ...node) *state.State {
	t.Helper()
	s, e := state.At(v, id, l...)
	if s == nil || e != api.OK {
		t.Fatalf("At(%d, %q) of %d: %d", v, id, len(l), e)
	}
	return s
}

// refuses asks both calls for one error; it goes ahead of an ID that isn't there.
func refuses(t *testing.T, v int, want api.Errno, l ...node) {
	t.Helper()
	if s, e := state.Of(v, l...); s != nil || e != want {
		t.Errorf("Of(%d, %+v): %v, %d, not %d", v, l, s, e, want)
	}
	for _, id := range names("$a:x", "", "$"+strings.Repeat("A", 43)) {
		atRefuses(t, v, id, want, l...)
	}
}

func atRefuses(t *testing.T, v int, id string, want api.Errno, l ...node) {
	t.Helper()
	if s, e := state.At(v, id, l...); s != nil || e != want {
		t.Errorf("At(%d, %q, %+v): %v, %d, not %d", v, id, l, s, e, want)
	}
}

func TestP53_1NoEvents(t *testing.T) {
	for _, v := range append(noVersions, 1, 2, 3, 11) {
		s := of(t, v)
		asks(t, s)
		gets(t, s, key{}, "", false)
		same(t, s, of(t, 1), true)
		for _, id := range names("", "$a:x") {
			atRefuses(t, v, id, api.ErrNone)
		}
	}
}

func TestP53_1StateEvents(t *testing.T) {
	for v := 1; v <= 2; v++ {
		asks(t, of(t, v, event("$a:x", "t", "k")), entry{key{"t", "k"}, "$a:x"})
		asks(t, of(t, v, event("$a:x", "", "")), entry{key{}, "$a:x"})
		asks(t, of(t, v, event("$a:x", "t", "")), entry{key{Type: "t"}, "$a:x"})
		asks(t, of(t, v, event("$a:x", "", "k")), entry{key{Key: "k"}, "$a:x"})
		long := strings.Repeat("k", 70000)
		asks(t, of(t, v, event("$a:x", long, long)), entry{key{long, long}, "$a:x"})

		n := event("$a:x", "t", "k")
		for _, other := range []node{
			plain("$a:x"), tree.Without(n, "type"), tree.Without(n, "state_key"), tree.Put(plain("$a:x"), "content", n),
			tree.Put(tree.Without(n, "state_key"), "State_key", tree.Text("k")), tree.Put(tree.Without(n, "type"), "types", tree.Text("t")),
			mapOf(append(names("type"), n.K...), append([]node{tree.Null()}, n.L...)...), // the first one counts
		} {
			asks(t, of(t, v, other))
		}
		for _, value := range []node{{}, {Kind: 7, S: "k"}, tree.Null(), tree.Bool(true), tree.Int(0), tree.List(tree.Text("k")), tree.Map()} {
			asks(t, of(t, v, tree.Put(n, "type", value)))
			asks(t, of(t, v, tree.Put(n, "state_key", value)))
		}
		// What else it has counts for nothing, nor whether it may be.
		asks(t, of(t, v, tree.Put(tree.Put(n, "content", node{}), "\xff", tree.Null())), entry{key{"t", "k"}, "$a:x"})
		asks(t, of(t, v, event("$a:x", "\xff", "\x00")), entry{key{"\xff", "\x00"}, "$a:x"})
		asks(t, of(t, v, mapOf(append(slices.Clone(n.K), "type"), append(slices.Clone(n.L), tree.Null())...)), entry{key{"t", "k"}, "$a:x"})
	}
}

// hashed is a state event of a version from 3 on, and its ID.
func hashed(t *testing.T, v int, k key, prev ...string) (node, string) {
	t.Helper()
	n := typed(tree.Map(tree.Text("prev_events"), prevOf(v, prev...)), k)
	id, e := eventid.Of(v, n)
	if e != api.OK {
		t.Fatal(e)
	}
	return n, id
}

func TestP53_1HashesAsIDs(t *testing.T) {
	for v := 3; v <= 11; v++ {
		first, a := hashed(t, v, key{"t", "k"})
		second, b := hashed(t, v, key{"t", "k"}, a, "$"+strings.Repeat("A", 43))
		third, c := hashed(t, v, key{"t", ""}, b)
		for _, l := range [][]node{{first, second, third}, {third, second, first}, {second, third, first}} {
			asks(t, of(t, v, l...), entry{key{"t", ""}, c}, entry{key{"t", "k"}, b})
			asks(t, at(t, v, a, l...))
			asks(t, at(t, v, b, l...), entry{key{"t", "k"}, a})
			asks(t, at(t, v, c, l...), entry{key{"t", "k"}, b})
			same(t, at(t, v, a, l...), nil, true)
		}
		asks(t, of(t, v, tree.Put(first, "state_key", tree.Int(1)), second), entry{key{"t", "k"}, b})
		atRefuses(t, v, "$"+strings.Repeat("A", 43), api.ErrNone, second)
		atRefuses(t, v, "$a:x", api.ErrNone, first)
	}
}

// The last one of a Key is so by the graph's order, and in that by the order in which events came just where they name each other in no way.
func TestP53_1TheLastOneOfAKey(t *testing.T) {
	k := key{"t", "k"}
	a, b, c := "$a:x", "$b:x", "$c:x"
	asks(t, of(t, 1, event(a, "t", "k"), event(b, "t", "k")), entry{k, b})
	asks(t, of(t, 1, event(b, "t", "k"), event(a, "t", "k")), entry{k, a})
	asks(t, of(t, 1, event(b, "t", "k", a), event(a, "t", "k")), entry{k, b})
	asks(t, of(t, 1, event(a, "t", "k"), event(b, "t", "k", a)), entry{k, b})
	asks(t, of(t, 1, event(b, "t", "k", c), plain(c, a), event(a, "t", "k")), entry{k, b}) // by an event that is none
	// b can be as soon as c is taken, and so goes ahead of a just if c does.
	asks(t, of(t, 1, event(b, "t", "k", c), event(c, "u", "k"), event(a, "t", "k")), entry{k, a}, entry{key{"u", "k"}, c})
	asks(t, of(t, 1, event(b, "t", "k", c), event(a, "t", "k"), event(c, "u", "k")), entry{k, b}, entry{key{"u", "k"}, c})
	asks(t, of(t, 1, event(b, "t", "k", "$z:x"), event(a, "t", "k")), entry{k, a}) // through what isn't here nothing leads
	asks(t, of(t, 1, event(a, "t", "k"), event(b, "t", "l"), event(c, "u", "k")), entry{k, a}, entry{key{"t", "l"}, b}, entry{key{"u", "k"}, c})
}

func TestP53_1RingsCountForNothing(t *testing.T) {
	a, b, c, d := "$a:x", "$b:x", "$c:x", "$d:x"
	asks(t, of(t, 1, event(a, "t", "k", a)))
	asks(t, at(t, 1, a, event(a, "t", "k", a)))
	asks(t, of(t, 1, event(a, "t", "k", b), event(b, "t", "k", a), event(c, "u", "")), entry{key{"u", ""}, c})
	// d leads to a ring, and so is in no order, either; what the ring leads to is.
	l := []node{event(d, "t", "d", a), event(a, "t", "k", b, c), event(b, "t", "k", a), event(c, "t", "k")}
	asks(t, of(t, 1, l...), entry{key{"t", "k"}, c})
	for _, id := range names(a, b, d) {
		asks(t, at(t, 1, id, l...), entry{key{"t", "k"}, c})
	}
	asks(t, at(t, 1, c, l...))
}

func TestP53_1AtIsThePastAlone(t *testing.T) {
	a, b, c, d, e := "$a:x", "$b:x", "$c:x", "$d:x", "$e:x"
	l := []node{event(e, "t", "k", d), event(d, "u", "", b, c), event(c, "t", "l", a), event(b, "t", "k", a), event(a, "t", "k")}
	k, other := key{"t", "k"}, key{"t", "l"}
	asks(t, at(t, 1, a, l...))
	asks(t, at(t, 1, b, l...), entry{k, a})
	asks(t, at(t, 1, c, l...), entry{k, a})
	asks(t, at(t, 1, d, l...), entry{k, b}, entry{other, c})
	asks(t, at(t, 1, e, l...), entry{k, b}, entry{other, c}, entry{key{"u", ""}, d})
	asks(t, of(t, 1, l...), entry{k, e}, entry{other, c}, entry{key{"u", ""}, d})
	// What isn't here leads nowhere, and has no state.
	l = slices.Delete(l, 3, 4)
	asks(t, at(t, 1, d, l...), entry{k, a}, entry{other, c})
	l = slices.Delete(l, 2, 3)
	asks(t, at(t, 1, d, l...))
	for _, id := range names(b, c, "", "a", "$A:x", "$a:x ", "$z:x") {
		atRefuses(t, 1, id, api.ErrNone, l...)
	}
	// Nor has an event that is no state event a state less.
	asks(t, at(t, 2, c, plain(c, b), event(b, "t", "k")), entry{k, b})
}

// bad are lists that dag refuses, by the error.
func bad(v int) map[api.Errno][][]node {
	id := "$" + strings.Repeat("A", 43)
	n := typed(tree.Map(tree.Text("prev_events"), prevOf(v)), key{"t", "k"})
	if v <= 2 {
		id, n = "$a:x", event("$a:x", "t", "k")
	}
	named := tree.Text(id)
	long := make([]string, 21)
	for i := range long {
		long[i] = id
	}
	l := map[api.Errno][][]node{
		api.ErrTwice: {{n, n}, {n, tree.Put(n, "body", tree.Map()), tree.Null()}, {tree.Put(n, "prev_events", prevOf(v, id, id))}},
		api.ErrField: {{tree.Without(n, "prev_events")}, {tree.Put(n, "depth", tree.Int(1)), tree.Without(tree.Put(n, "depth", tree.Int(2)), "prev_events")}},
		api.ErrType:  {{tree.Put(n, "prev_events", tree.Null())}, {tree.Put(n, "prev_events", named)}, {tree.Put(n, "prev_events", tree.List(tree.Int(1)))}},
		api.ErrMany:  {{tree.Put(n, "prev_events", prevOf(v, long...))}},
		api.ErrID:    {{tree.Put(n, "prev_events", prevOf(v, "a"))}},
	}
	if v <= 2 {
		l[api.ErrField] = [][]node{{tree.Map()}, {node{}}, {tree.Null()}, {tree.Without(n, "event_id")}, {tree.Without(n, "prev_events")}, {n, plain("$b:x"), tree.Without(plain("$c:x"), "prev_events")}}
		l[api.ErrName] = [][]node{{n, plain("$b:")}, {plain("$b:x", "$c:")}}
		return l
	}
	l[api.ErrType] = append(l[api.ErrType], []node{tree.Null()}, []node{n, tree.List()})
	l[api.ErrKind] = [][]node{{node{}}, {n, node{}}, {tree.Put(n, "x", node{})}}
	l[api.ErrText] = [][]node{{tree.Put(n, "state_key", tree.Text("\xff"))}}
	return l
}

func TestP53_1WhatDagRefuses(t *testing.T) {
	for v := 1; v <= 11; v++ {
		for want, lists := range bad(v) {
			for _, l := range lists {
				refuses(t, v, want, l...)
			}
		}
	}
	for _, v := range noVersions {
		for _, n := range []node{event("$a:x", "t", "k"), tree.Map(), tree.Null(), {}} {
			refuses(t, v, api.ErrVersion, n)
			refuses(t, v, api.ErrVersion, n, n)
		}
	}
}

// rising are keys in the order in which they are told: A is below a, a text ahead of what is longer, what has the first bit behind all that hasn't.
func rising() []key {
	texts := names("", "\x00", "\x00\x00", "\x00a", " ", "10", "9", "A", "Z", "a", "a\x00", "aa", "ab", "b", "m.room.create", "m.room.member", "z", "\u00e9", "\uffff", "\U00010000", "\xff")
	var l []key
	for _, kind := range texts {
		for _, name := range texts {
			l = append(l, key{kind, name})
		}
	}
	return l
}

func TestP53_2AllRises(t *testing.T) {
	r := rand.New(rand.NewSource(532))
	var l []node
	var want []entry
	for i, k := range rising() {
		id := "$" + strconv.Itoa(i) + ":x"
		l, want = append(l, event(id, k.Type, k.Key)), append(want, entry{k, id})
	}
	first := of(t, 1, l...)
	for range 3 {
		r.Shuffle(len(l), func(i, j int) { l[i], l[j] = l[j], l[i] })
		s := of(t, 1, l...)
		asks(t, s, want...)
		same(t, s, first, true)
	}
	for _, k := range []key{{"b", "\x01"}, {"B", ""}, {"aaa", ""}, {"", "aaa"}, {"\xff\xff", ""}} {
		gets(t, first, k, "", false)
	}
}

// A Type and a Key aren't one text.
func TestP53_2KeysAreTwoTexts(t *testing.T) {
	s := of(t, 1, event("$a:x", "ab", "c"), event("$b:x", "a", "bc"), event("$c:x", "", "abc"))
	asks(t, s, entry{key{"", "abc"}, "$c:x"}, entry{key{"a", "bc"}, "$b:x"}, entry{key{"ab", "c"}, "$a:x"})
	for _, k := range []key{{"abc", ""}, {"c", "ab"}, {"bc", "a"}, {"AB", "c"}, {"ab", "C"}, {"ab", ""}, {"", ""}} {
		gets(t, s, k, "", false)
	}
}

func TestP53_2Same(t *testing.T) {
	a, b := event("$a:x", "t", "k"), event("$b:x", "u", "k")
	s := of(t, 1, a, b)
	same(t, s, s, true)
	same(t, s, of(t, 1, b, a), true)
	same(t, s, of(t, 2, a, b, plain("$c:x")), true)
	same(t, s, of(t, 1, event("$c:x", "t", "k"), tree.Put(a, "prev_events", prevOf(1, "$c:x")), b), true)
	for _, l := range [][]node{
		{}, {a}, {b}, {a, b, event("$c:x", "t", "")}, {a, b, event("$c:x", "t", "k")}, {a, event("$c:x", "u", "k")}, {a, event("$b:x", "u", "l")}, {a, event("$b:x", "t", "l")},
		{event("$b:x", "t", "k"), event("$a:x", "u", "k")}, {plain("$a:x"), b},
	} {
		other := of(t, 1, l...)
		same(t, s, other, false)
		same(t, other, of(t, 1, l...), true)
	}
}

func TestP53_2NilState(t *testing.T) {
	var s *state.State
	asks(t, s)
	for _, k := range []key{{}, {"t", "k"}} {
		gets(t, s, k, "", false)
	}
	same(t, s, s, true)
	same(t, s, of(t, 1), true)
	same(t, s, of(t, 1, plain("$a:x")), true)
	same(t, s, of(t, 1, event("$a:x", "", "")), false)
}

// room is some events as they came: their IDs, what each names, and their keys.
type room struct {
	ids  []string
	prev map[string][]string
	keys map[string]key
}

func (r room) here(id string) bool { return slices.Contains(r.ids, id) }

// order asks all, from the first one on, again for each that is taken.
func (r room) order() []string {
	var taken []string
	can := func(id string) bool {
		return !slices.Contains(taken, id) && !slices.ContainsFunc(r.prev[id], func(p string) bool { return r.here(p) && !slices.Contains(taken, p) })
	}
	for {
		i := slices.IndexFunc(r.ids, can)
		if i < 0 {
			return taken
		}
		taken = append(taken, r.ids[i])
	}
}

// past are those here to which an event leads, found by going one step further until nothing is new.
func (r room) past(id string) []string {
	var l []string
	from := names(id)
	for len(from) > 0 {
		var next []string
		for _, at := range from {
			for _, p := range r.prev[at] {
				if r.here(p) && !slices.Contains(l, p) {
					l, next = append(l, p), append(next, p)
				}
			}
		}
		from = next
	}
	return l
}

// only is the room of which these alone are here.
func (r room) only(ids []string) room {
	r.ids = slices.DeleteFunc(slices.Clone(r.ids), func(id string) bool { return !slices.Contains(ids, id) })
	return r
}

// state is what the events leave, told as it is asked for.
func (r room) state() []entry {
	last := map[key]string{}
	for _, id := range r.order() {
		if k, ok := r.keys[id]; ok {
			last[k] = id
		}
	}
	var l []entry
	for _, k := range rising() {
		if id, ok := last[k]; ok {
			l = append(l, entry{k, id})
		}
	}
	return l
}

func (r room) events() []node {
	var l []node
	for _, id := range r.ids {
		n := plain(id, r.prev[id]...)
		if k, ok := r.keys[id]; ok {
			n = typed(n, k)
		}
		l = append(l, n)
	}
	return l
}

// anyRoom has some events, most of them state events of few keys; without rings an event names such as have a lower number.
func anyRoom(r *rand.Rand, rings bool) room {
	rm := room{prev: map[string][]string{}, keys: map[string]key{}}
	all := make([]string, 2+r.Intn(12))
	for i := range all {
		all[i] = "$" + strconv.Itoa(i) + ":x"
	}
	most, few := 1+r.Intn(3), rising()[200:204]
	for _, i := range r.Perm(len(all)) {
		if r.Intn(6) == 0 {
			continue
		}
		id, from := all[i], all[:i]
		if rings {
			from = all
		}
		rm.ids = append(rm.ids, id)
		for _, j := range r.Perm(len(from))[:min(len(from), r.Intn(most+1))] {
			rm.prev[id] = append(rm.prev[id], from[j])
		}
		if r.Intn(4) > 0 {
			rm.keys[id] = few[r.Intn(len(few))]
		}
	}
	return rm
}

func TestP53_1AnyRooms(t *testing.T) {
	r := rand.New(rand.NewSource(531))
	for i := range 600 {
		v, rm := 1+r.Intn(2), anyRoom(r, i%2 == 0)
		l := rm.events()
		asks(t, of(t, v, l...), rm.state()...)
		for _, id := range rm.ids {
			past := rm.only(rm.past(id))
			asks(t, at(t, v, id, l...), past.state()...)
			// By themselves they leave what they leave there.
			same(t, at(t, v, id, l...), of(t, v, past.events()...), true)
		}
	}
}

// Each ID is a state event's of that Key; what is none, and is named by no other one, may as well be away.
func TestP53_3WhatFollows(t *testing.T) {
	r := rand.New(rand.NewSource(533))
	away := 0
	for i := range 300 {
		rm := anyRoom(r, i%3 == 0)
		s := of(t, 1, rm.events()...)
		for k, id := range s.All() {
			if own, ok := rm.keys[id]; !ok || own != k || !rm.here(id) {
				t.Errorf("%q: %q", k, id)
			}
		}
		for _, id := range rm.ids {
			_, is := rm.keys[id]
			if is || slices.ContainsFunc(rm.ids, func(other string) bool { return slices.Contains(rm.prev[other], id) }) {
				continue
			}
			away++
			rest := rm.only(slices.DeleteFunc(slices.Clone(rm.ids), func(other string) bool { return other == id }))
			same(t, s, of(t, 1, rest.events()...), true)
			for _, other := range rest.ids {
				same(t, at(t, 1, other, rm.events()...), at(t, 1, other, rest.events()...), true)
			}
		}
	}
	if away < 50 {
		t.Error(away)
	}
}

// Neither a long way nor many events are too much.
func TestP53LongWays(t *testing.T) {
	const long = 30000
	l := make([]node, long)
	id := func(i int) string { return "$" + strconv.Itoa(i) + ":x" }
	for i := range l {
		l[long-1-i] = event(id(i), "t", strconv.Itoa(i%3), id(i-1)) // what the first one names isn't here
	}
	asks(t, of(t, 1, l...), entry{key{"t", "0"}, id(long - 3)}, entry{key{"t", "1"}, id(long - 2)}, entry{key{"t", "2"}, id(long - 1)})
	asks(t, at(t, 1, id(long-1), l...), entry{key{"t", "0"}, id(long - 3)}, entry{key{"t", "1"}, id(long - 2)}, entry{key{"t", "2"}, id(long - 4)})
	asks(t, at(t, 1, id(1), l...), entry{key{"t", "0"}, id(0)})
}

func TestP53WhatIsHandedInIsNotChangedNorKept(t *testing.T) {
	a, b := event("$a:x", "t", "k"), event("$b:x", "t", "l", "$a:x")
	b.K, b.L = slices.Grow(b.K, 4), slices.Grow(b.L, 4)
	l := append(make([]node, 0, 4), a, b)
	given := tree.Sorted(tree.List(l...))
	s, past := of(t, 1, l...), at(t, 1, "$b:x", l...)
	if !tree.Exact(tree.Sorted(tree.List(l...)), given) || !tree.Exact(tree.List(l[:4][2:]...), tree.List(node{}, node{})) || b.K[:cap(b.K)][len(b.K)] != "" || !tree.Exact(b.L[:cap(b.L)][len(b.L)], node{}) {
		t.Errorf("%+v", l[:4])
	}
	for i := range l {
		clear(l[i].K)
		clear(l[i].L)
	}
	clear(l)
	asks(t, s, entry{key{"t", "k"}, "$a:x"}, entry{key{"t", "l"}, "$b:x"})
	asks(t, past, entry{key{"t", "k"}, "$a:x"})
}

// One range may go within another one, and what is collected is the asker's own.
func TestP53AnswersStay(t *testing.T) {
	s := of(t, 1, event("$a:x", "t", "k"), event("$b:x", "t", "l"))
	all := s.All()
	var met []string
	for _, a := range all {
		for _, b := range all {
			met = append(met, a+b)
		}
	}
	if !slices.Equal(met, names("$a:x$a:x", "$a:x$b:x", "$b:x$a:x", "$b:x$b:x")) {
		t.Errorf("%q", met)
	}
	own := maps.Collect(all)
	delete(own, key{"t", "k"})
	own[key{"t", "l"}] = ""
	asks(t, s, entry{key{"t", "k"}, "$a:x"}, entry{key{"t", "l"}, "$b:x"})
}

func TestP7EveryCallEnds(t *testing.T) {
	for i := range 64 {
		for _, v := range []int{1 << i, 1<<i - 1, -1 << i} {
			for kind := -1; kind < 8; kind++ {
				prev := node{Kind: kind, N: 1, S: "$a:b", K: names("sha256"), L: []node{{Kind: kind, S: "$a:b", L: []node{tree.Text("$a:b"), {Kind: kind}}}}}
				n := node{Kind: kind, S: "$a:b", K: names("event_id", "prev_events", "type", "state_key"), L: []node{tree.Text("$a:b"), prev, {Kind: kind}, prev}}
				for _, l := range [][]node{{n}, {n, n, {}}, {mapOf(n.K, n.L...)}, {mapOf(n.K, n.L[:2]...)}} {
					s, _ := state.Of(v, l...)
					past, _ := state.At(v, "$a:b", l...)
					state.Same(s, past)
				}
			}
		}
	}
	state.Of(3, nil...)
	state.At(3, strings.Repeat("\xff", 100000), nil...)
	state.Of(3, tree.Map(tree.Text("type"), tree.Text(base64.StdEncoding.EncodeToString(make([]byte, 100000)))))
}
