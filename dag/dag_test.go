package dag_test

import (
	"encoding/base64"
	"math"
	"math/rand"
	"slices"
	"strconv"
	"strings"
	"testing"

	"sealring/api"
	"sealring/dag"
	"sealring/eventid"
	"sealring/tree"
)

type node = api.Node

var noVersions = []int{0, -1, 12, 13, 100, math.MinInt, math.MaxInt}

func mapOf(keys []string, values ...node) node { return node{Kind: api.Map, K: keys, L: values} }

func names(l ...string) []string { return l }

// prevOf is a List that names events, as a version names them.
func prevOf(v int, ids ...string) node {
	l := tree.List()
	for i, id := range ids {
		n := tree.Text(id)
		if v <= 2 {
			hash := base64.RawStdEncoding.EncodeToString([]byte(strings.Repeat(string(rune('a'+i%26)), 32)))
			n = tree.List(n, tree.Map(tree.Text("sha256"), tree.Text(hash)))
		}
		l.L = append(l.L, n)
	}
	return l
}

// event is one of a version up to 2, that brings its ID.
func event(id string, prev ...string) node {
	return tree.Map(tree.Text("event_id"), tree.Text(id), tree.Text("prev_events"), prevOf(1, prev...))
}

// hashed is an event of a version from 3 on, and its ID.
func hashed(t *testing.T, v, depth int, prev ...string) (node, string) {
	t.Helper()
	n := tree.Map(tree.Text("depth"), tree.Int(int64(depth)), tree.Text("prev_events"), prevOf(v, prev...))
	id, e := eventid.Of(v, n)
	if e != api.OK {
		t.Fatal(e)
	}
	return n, id
}

func graphOf(t *testing.T, v int, l ...node) *dag.Graph {
	t.Helper()
	g, e := dag.Of(v, l...)
	if e != api.OK || g == nil {
		t.Fatalf("Of(%d, %d events): %d", v, len(l), e)
	}
	return g
}

func refuses(t *testing.T, v int, want api.Errno, l ...node) {
	t.Helper()
	if g, e := dag.Of(v, l...); g != nil || e != want {
		t.Errorf("Of(%d, %+v): %v, %d, not %d", v, l, g, e, want)
	}
}

func list(t *testing.T, what string, got []string, want ...string) {
	t.Helper()
	if !slices.Equal(got, want) {
		t.Errorf("%s: %q, not %q", what, got, want)
	}
}

func ordered(t *testing.T, g *dag.Graph, wantAll bool, want ...string) {
	t.Helper()
	l, all := g.Order()
	list(t, "Order", l, want...)
	if all != wantAll {
		t.Errorf("Order: all: %v, not %v", all, wantAll)
	}
}

// past asks for all of it, twice over, and left at each place.
func past(t *testing.T, g *dag.Graph, id string, want ...string) {
	t.Helper()
	seq := g.Past(id)
	for range 2 {
		list(t, "Past of "+id, slices.Collect(seq), want...)
	}
	for leave := 1; leave <= len(want); leave++ {
		var seen []string
		for s := range seq {
			if seen = append(seen, s); len(seen) == leave {
				break
			}
		}
		list(t, "Past of "+id+", left", seen, want[:leave]...)
	}
}

// has asks for the events and what each one names.
func has(t *testing.T, g *dag.Graph, ids []string, prev ...[]string) {
	t.Helper()
	if g.Len() != len(ids) {
		t.Errorf("Len: %d, not %d", g.Len(), len(ids))
	}
	list(t, "IDs", g.IDs(), ids...)
	for i, id := range ids {
		list(t, "Prev of "+id, g.Prev(id), prev[i]...)
	}
}

func TestP46_1NoEvents(t *testing.T) {
	for _, v := range append(noVersions, 1, 2, 3, 11) {
		g := graphOf(t, v)
		has(t, g, nil)
		ordered(t, g, true)
		list(t, "Heads", g.Heads())
		list(t, "Missing", g.Missing())
		list(t, "Prev", g.Prev("$a:x"))
		past(t, g, "$a:x")
		past(t, g, "")
	}
}

func TestP46_1OwnVersions(t *testing.T) {
	for v := 1; v <= 2; v++ {
		g := graphOf(t, v, event("$b:x", "$c:x", "$a:x", "$B:x"), event("$a:x"), event("$C:x", "$C:x", "$b:x"))
		has(t, g, names("$b:x", "$a:x", "$C:x"), names("$c:x", "$a:x", "$B:x"), nil, names("$C:x", "$b:x"))
		for _, id := range names("", "$c:x", "$B:x", "$A:x", "$b:x ", "b:x") {
			list(t, "Prev of "+id, g.Prev(id))
		}
	}
}

func TestP46_1HashesAsIDs(t *testing.T) {
	for v := 3; v <= 11; v++ {
		a, first := hashed(t, v, 1)
		b, second := hashed(t, v, 2, first)
		c, third := hashed(t, v, 2, second, "$"+strings.Repeat("A", 43), first)
		has(t, graphOf(t, v, c, a, b), names(third, first, second), names(second, "$"+strings.Repeat("A", 43), first), nil, names(first))
		// What isn't kept when it is redacted counts for nothing.
		has(t, graphOf(t, v, tree.Put(a, "body", tree.Null())), names(first), nil)
		refuses(t, v, api.ErrTwice, a, b, tree.Put(a, "body", tree.Null()))
	}
}

func many(v, many int) []string {
	var l []string
	for i := range many {
		id := "$" + strconv.Itoa(i) + ":x"
		if v > 2 {
			id = "$" + base64.RawStdEncoding.EncodeToString([]byte(strings.Repeat(string(rune('a'+i)), 32)))
		}
		l = append(l, id)
	}
	return l
}

// named is an event of any version of which it is told whom it names.
func named(v int, prev node) node {
	n := tree.Map(tree.Text("prev_events"), prev)
	if v <= 2 {
		n = tree.Put(n, "event_id", tree.Text("$e:x"))
	}
	return n
}

func TestP46_1HowManyMayBeNamed(t *testing.T) {
	for v := 1; v <= 11; v++ {
		for _, so := range []int{0, 1, 19, 20} {
			ids := many(v, so)
			g := graphOf(t, v, named(v, prevOf(v, ids...)))
			list(t, "Prev", g.Prev(g.IDs()[0]), ids...)
			slices.Sort(ids)
			list(t, "Missing", g.Missing(), ids...)
		}
		refuses(t, v, api.ErrMany, named(v, prevOf(v, many(v, 21)...)))
		refuses(t, v, api.ErrMany, named(v, tree.List(slices.Repeat([]node{tree.Null()}, 21)...)))
		refuses(t, v, api.ErrType, named(v, tree.List(slices.Repeat([]node{tree.Null()}, 20)...)))
	}
}

// badPrevs are what prev_events may not be, by the error, in the ways of both kinds of versions.
func badPrevs(v int) map[api.Errno][]node {
	id, hash := tree.Text(many(v, 1)[0]), prevOf(1, "$a:x").L[0].L[1]
	l := map[api.Errno][]node{
		api.ErrType: {tree.Null(), tree.Bool(false), tree.Int(0), id, tree.Map(), tree.Map(id, hash), tree.List(tree.Null()), tree.List(tree.Int(1)), tree.List(tree.Map()), tree.List(tree.List(id)), tree.List(tree.List(hash, id)), tree.List(tree.List(id, id)), tree.List(tree.List(id, hash, hash))},
	}
	if v > 2 {
		l[api.ErrType] = append(l[api.ErrType], tree.List(id, tree.Null()), tree.List(tree.List(id, hash)))
		l[api.ErrTwice] = []node{tree.List(id, id), tree.List(id, tree.Text(many(v, 2)[1]), id, tree.Null())}
		l[api.ErrID] = []node{tree.List(tree.Text("")), tree.List(tree.Text("$a:x")), tree.List(id, tree.Text(id.S[1:])), tree.List(id, tree.Text(id.S+"A"))}
		l[api.ErrLong] = []node{tree.List(tree.Text(strings.Repeat("$", 256)))}
		return l
	}
	pair := func(s string) node { return tree.List(tree.Text(s), hash) }
	l[api.ErrType] = append(l[api.ErrType], tree.List(id), tree.List(tree.List(id, tree.Map())))
	l[api.ErrTwice] = []node{tree.List(pair("$a:x"), pair("$a:x")), prevOf(v, "$a:x", "$b:x", "$a:x")}
	l[api.ErrID] = []node{tree.List(pair("a")), tree.List(pair("$a:x"), pair("@a:x"))}
	l[api.ErrName] = []node{tree.List(pair("$a:"))}
	l[api.ErrLong] = []node{tree.List(pair(strings.Repeat("$", 256)))}
	l[api.ErrHash] = []node{tree.List(tree.List(id, tree.Map(tree.Text("sha256"), tree.Text("x"))))}
	return l
}

func TestP46_1WhatIsNamedWrongly(t *testing.T) {
	for v := 1; v <= 11; v++ {
		for want, l := range badPrevs(v) {
			for _, prev := range l {
				refuses(t, v, want, named(v, prev))
			}
		}
	}
}

func TestP46_1WithoutPrevEvents(t *testing.T) {
	for v := 1; v <= 11; v++ {
		full := named(v, prevOf(v))
		for _, n := range []node{
			tree.Without(full, "prev_events"), tree.Put(tree.Without(full, "prev_events"), "Prev_events", prevOf(v)), tree.Put(tree.Without(full, "prev_events"), "auth_events", prevOf(v)), tree.Put(tree.Without(full, "prev_events"), "content", full),
		} {
			refuses(t, v, api.ErrField, n)
		}
	}
	// Of versions that bring their IDs also such events are asked as may not be.
	id, prev := tree.Text("$e:x"), prevOf(1, "$a:x")
	for v := 1; v <= 2; v++ {
		refuses(t, v, api.ErrField, mapOf(names("event_id", "prev_events"), id))
		refuses(t, v, api.ErrType, mapOf(names("event_id", "prev_events", "prev_events"), id, tree.Null(), prev))
		has(t, graphOf(t, v, mapOf(names("event_id", "prev_events", "prev_events"), id, prev, tree.Null())), names("$e:x"), names("$a:x"))
		has(t, graphOf(t, v, mapOf(names("event_id", "prev_events", "x"), id, prev)), names("$e:x"), names("$a:x"))
	}
}

// All IDs go ahead of all that is named, and of that the first event.
func TestP46_1WhatIsToldFirst(t *testing.T) {
	for v := 1; v <= 2; v++ {
		bare := func(id string) node { return tree.Map(tree.Text("event_id"), tree.Text(id)) }
		wrong := func(id string) node { return tree.Put(bare(id), "prev_events", tree.Null()) }
		refuses(t, v, api.ErrTwice, wrong("$a:x"), event("$b:x"), event("$a:x"))
		refuses(t, v, api.ErrTwice, event("$a:x"), event("$a:x"))
		refuses(t, v, api.ErrID, bare("$a:x"), event("b"))
		refuses(t, v, api.ErrName, event("$a:x"), bare("$b:"))
		refuses(t, v, api.ErrField, bare("$a:x"), wrong("$b:x"))
		refuses(t, v, api.ErrType, wrong("$a:x"), bare("$b:x"))
		refuses(t, v, api.ErrType, event("$c:x"), wrong("$a:x"), bare("$b:x"))
		refuses(t, v, api.ErrMany, event("$c:x", many(v, 21)...), wrong("$a:x"), bare("$b:x"))
		refuses(t, v, api.ErrField, wrong("$a:x"), tree.Null())
		refuses(t, v, api.ErrField, node{})
	}
	for v := 3; v <= 11; v++ {
		wrong := named(v, tree.Null())
		refuses(t, v, api.ErrTwice, wrong, named(v, prevOf(v)), wrong)
		refuses(t, v, api.ErrType, tree.Map(), tree.Null())
		refuses(t, v, api.ErrKind, wrong, node{})
		refuses(t, v, api.ErrField, tree.Map(), wrong)
		refuses(t, v, api.ErrType, wrong, tree.Map())
	}
	for _, v := range noVersions {
		for _, n := range []node{{}, tree.Null(), tree.Map(), event("$a:x"), named(3, tree.Null())} {
			refuses(t, v, api.ErrVersion, n)
			refuses(t, v, api.ErrVersion, n, n)
		}
	}
}

func TestP46_2OrderTakesTheFirstThatCanBe(t *testing.T) {
	a, b, c, d := "$a:x", "$b:x", "$c:x", "$d:x"
	ordered(t, graphOf(t, 1, event(a), event(b), event(c)), true, a, b, c)
	ordered(t, graphOf(t, 1, event(c), event(a), event(b)), true, c, a, b) // in the order in which they came
	ordered(t, graphOf(t, 1, event(a, b, "$z:x"), event(b)), true, b, a)
	ordered(t, graphOf(t, 1, event(a, "$z:x"), event(b)), true, a, b)
	// What can be at last goes ahead of what came behind it and could be all the while.
	ordered(t, graphOf(t, 1, event(a, b), event(b), event(c)), true, b, a, c)
	ordered(t, graphOf(t, 1, event(a, c), event(b), event(c), event(d)), true, b, c, a, d)
	ordered(t, graphOf(t, 1, event(d, c), event(c, b), event(b, a), event(a)), true, a, b, c, d)
	ordered(t, graphOf(t, 1, event(d, a), event(b, a), event(c), event(a)), true, c, a, d, b)
	ordered(t, graphOf(t, 1, event(d, a, c), event(b, a), event(a), event(c)), true, a, b, c, d)
}

func TestP46_2Rings(t *testing.T) {
	a, b, c, d := "$a:x", "$b:x", "$c:x", "$d:x"
	g := graphOf(t, 1, event(a, a))
	ordered(t, g, false)
	list(t, "Heads", g.Heads())
	list(t, "Missing", g.Missing())
	past(t, g, a, a)

	g = graphOf(t, 2, event(a, b), event(b, a))
	ordered(t, g, false)
	list(t, "Heads", g.Heads())
	past(t, g, a, a, b)
	past(t, g, b, a, b)

	// d leads to a ring, c doesn't.
	g = graphOf(t, 1, event(d, b, c), event(b, a), event(a, b, "$z:x"), event(c, "$y:x"))
	ordered(t, g, false, c)
	list(t, "Heads", g.Heads(), d)
	list(t, "Missing", g.Missing(), "$y:x", "$z:x")
	past(t, g, d, a, b, c)
	past(t, g, a, a, b)
	past(t, g, c)

	// A ring leads to c: that is taken, all else isn't.
	g = graphOf(t, 1, event(a, b, c), event(b, a), event(d), event(c))
	ordered(t, g, false, d, c)
	list(t, "Heads", g.Heads(), d)
	past(t, g, b, a, b, c)
}

func TestP46_2HeadsAndMissing(t *testing.T) {
	g := graphOf(t, 1, event("$d:x", "$a:x"), event("$a:x", "$z:x", "$B:x"), event("$c:x", "$a:x", "$y:x", "$z:x"), event("$b:x"))
	list(t, "Heads", g.Heads(), "$d:x", "$c:x", "$b:x")
	list(t, "Missing", g.Missing(), "$B:x", "$y:x", "$z:x")
	for _, id := range names("$z:x", "$y:x", "$B:x", "", "a") {
		past(t, g, id)
	}
	past(t, g, "$c:x", "$a:x")
	past(t, g, "$a:x")
}

// Ways through what isn't here lead nowhere.
func TestP46_2PastGoesThroughWhatIsHere(t *testing.T) {
	a, b, c, d := "$a:x", "$b:x", "$c:x", "$d:x"
	past(t, graphOf(t, 1, event(a, b), event(c, d), event(d)), a)
	past(t, graphOf(t, 1, event(a, b), event(b, c), event(c, d), event(d)), a, b, c, d)
	past(t, graphOf(t, 1, event(d, c, a), event(c, b), event(b, a), event(a)), d, a, b, c)
	past(t, graphOf(t, 1, event(d, "$B:x", "$1:x", c), event(c), event("$B:x"), event("$1:x", "$10:x", "$09:x"), event("$10:x"), event("$09:x")), d, "$09:x", "$10:x", "$1:x", "$B:x", c)
}

func TestP46_3NilGraph(t *testing.T) {
	var g *dag.Graph
	has(t, g, nil)
	ordered(t, g, true)
	list(t, "Heads", g.Heads())
	list(t, "Missing", g.Missing())
	for _, id := range names("", "$a:x") {
		list(t, "Prev", g.Prev(id))
		past(t, g, id)
	}
}

// room is some events as they came: their IDs, and what each names.
type room struct {
	ids  []string
	prev map[string][]string
}

func (r room) here(id string) bool { return slices.Contains(r.ids, id) }

// leads is, of each ID here, to which ones here it leads, found by going one step further until nothing is new.
func (r room) leads() map[string]map[string]bool {
	to := map[string]map[string]bool{}
	for _, id := range r.ids {
		to[id] = map[string]bool{}
	}
	for grown := true; grown; {
		grown = false
		for _, id := range r.ids {
			for _, p := range r.prev[id] {
				if !r.here(p) {
					continue
				}
				before := len(to[id])
				to[id][p] = true
				for far := range to[p] {
					to[id][far] = true
				}
				grown = grown || len(to[id]) > before
			}
		}
	}
	return to
}

// order asks all, from the first one on, again for each that is taken.
func (r room) order() ([]string, bool) {
	var taken []string
	can := func(id string) bool {
		return !slices.Contains(taken, id) && !slices.ContainsFunc(r.prev[id], func(p string) bool { return r.here(p) && !slices.Contains(taken, p) })
	}
	for {
		i := slices.IndexFunc(r.ids, can)
		if i < 0 {
			return taken, len(taken) == len(r.ids)
		}
		taken = append(taken, r.ids[i])
	}
}

func (r room) namesIt(id string) bool {
	for _, own := range r.ids {
		if slices.Contains(r.prev[own], id) {
			return true
		}
	}
	return false
}

// asks all of a graph that has these events.
func (r room) asks(t *testing.T, g *dag.Graph) {
	t.Helper()
	var prev [][]string
	var heads, missing []string
	for _, id := range r.ids {
		prev = append(prev, r.prev[id])
		if !r.namesIt(id) {
			heads = append(heads, id)
		}
		for _, p := range r.prev[id] {
			if !r.here(p) && !slices.Contains(missing, p) {
				missing = append(missing, p)
			}
		}
	}
	slices.Sort(missing)
	has(t, g, r.ids, prev...)
	list(t, "Heads", g.Heads(), heads...)
	list(t, "Missing", g.Missing(), missing...)
	taken, all := r.order()
	ordered(t, g, all, taken...)
	for id, to := range r.leads() {
		var l []string
		for other := range to {
			l = append(l, other)
		}
		slices.Sort(l)
		past(t, g, id, l...)
	}
	for _, id := range missing {
		past(t, g, id)
		list(t, "Prev of "+id, g.Prev(id))
	}
}

// some of these, each once, in any order.
func some(r *rand.Rand, l []string, most int) []string {
	var out []string
	for _, i := range r.Perm(len(l))[:r.Intn(min(len(l), most)+1)] {
		out = append(out, l[i])
	}
	return out
}

// Of versions that bring their IDs anything may name anything, itself, too.
func TestP46_2AnyGraphs(t *testing.T) {
	r := rand.New(rand.NewSource(46))
	ringed := 0
	for range 400 {
		v, all, rm := 1+r.Intn(2), many(1, 1+r.Intn(12)), room{prev: map[string][]string{}}
		var l []node
		most := r.Intn(4)
		for _, i := range r.Perm(len(all)) {
			if r.Intn(5) == 0 {
				continue
			}
			id := all[i]
			rm.ids, rm.prev[id] = append(rm.ids, id), some(r, all, most)
			l = append(l, event(id, rm.prev[id]...))
		}
		g := graphOf(t, v, l...)
		rm.asks(t, g)
		if _, ok := g.Order(); !ok {
			ringed++
		}
	}
	if ringed < 50 || ringed > 350 {
		t.Error("rings:", ringed)
	}
}

// Of others each names such as were there ahead of it.
func TestP46_2GraphsOfHashes(t *testing.T) {
	r := rand.New(rand.NewSource(462))
	for range 40 {
		v, rm := 3+r.Intn(9), room{prev: map[string][]string{}}
		known := many(3, 2)
		var l []node
		for depth := range 10 {
			prev := some(r, known, 3)
			n, id := hashed(t, v, depth, prev...)
			known = append(known, id)
			if r.Intn(6) == 0 {
				continue
			}
			at := r.Intn(len(l) + 1)
			l, rm.ids = slices.Insert(l, at, n), slices.Insert(rm.ids, at, id)
			rm.prev[id] = prev
		}
		rm.asks(t, graphOf(t, v, l...))
	}
}

// What is ordered stands behind all in its Past; without rings there are heads, and all are ordered.
func TestP46_4OrderAndPast(t *testing.T) {
	r := rand.New(rand.NewSource(464))
	for range 200 {
		all := many(1, 1+r.Intn(15))
		var l []node
		ringless := r.Intn(2) == 0
		for i, id := range all {
			from := all
			if ringless {
				from = all[:i]
			}
			l = append(l, event(id, some(r, from, 3)...))
		}
		r.Shuffle(len(l), func(i, j int) { l[i], l[j] = l[j], l[i] })
		g := graphOf(t, 1, l...)
		taken, ok := g.Order()
		if ringless && (!ok || len(taken) != len(all) || len(g.Heads()) == 0) {
			t.Error(taken, ok, g.Heads())
		}
		for i, id := range taken {
			for other := range g.Past(id) {
				if !slices.Contains(taken[:i], other) {
					t.Errorf("%s isn't ahead of %s: %q", other, id, taken)
				}
			}
		}
		for _, id := range all {
			if slices.Contains(slices.Collect(g.Past(id)), id) && (ringless || slices.Contains(taken, id)) {
				t.Errorf("%s leads to itself: %q", id, taken)
			}
		}
	}
}

// Neither long ways nor many of them are too much.
func TestP46LongAndManyWays(t *testing.T) {
	const long, wide = 30000, 20
	ids := many(1, long)
	var l []node
	for i := range long - 1 {
		l = append(l, event(ids[i], ids[i+1]))
	}
	g := graphOf(t, 1, append(l, event(ids[long-1]))...)
	taken, ok := g.Order()
	want := slices.Clone(ids)
	slices.Reverse(want)
	if !ok || !slices.Equal(taken, want) {
		t.Error("a long way:", len(taken), ok)
	}
	slices.Sort(want[:long-1])
	if got := slices.Collect(g.Past(ids[0])); !slices.Equal(got, want[:long-1]) {
		t.Error("a long way:", len(got))
	}
	list(t, "Heads", g.Heads(), ids[0])

	// Each of twenty names all twenty below it: the ways are more than could be gone, the events few.
	l = nil
	for i := range long / 10 {
		l = append(l, event(ids[i], ids[max(0, i/wide*wide-wide):i/wide*wide]...))
	}
	g = graphOf(t, 2, l...)
	ordered(t, g, true, ids[:long/10]...)
	want = slices.Clone(ids[:long/10-wide])
	slices.Sort(want)
	list(t, "Past", slices.Collect(g.Past(ids[long/10-1])), want...)
	if len(g.Heads()) != wide {
		t.Error(g.Heads())
	}
}

func TestP46WhatIsHandedInIsNotChangedNorKept(t *testing.T) {
	for _, v := range []int{1, 2, 3, 11} {
		ids := many(v, 3)
		l := append(make([]node, 0, 8), named(v, prevOf(v, ids...)))
		prev, _ := tree.Get(l[0], "prev_events")
		prev.L = slices.Grow(prev.L, 4)
		l[0] = tree.Put(l[0], "prev_events", prev)
		given := tree.Sorted(l[0])
		g := graphOf(t, v, l...)
		id := g.IDs()[0]
		if !tree.Exact(tree.Sorted(l[0]), given) || !tree.Exact(tree.List(l[:8][1:]...), tree.List(make([]node, 7)...)) || !tree.Exact(prev.L[:4][3], node{}) {
			t.Errorf("%+v", l[:8])
		}
		for i := range prev.L {
			prev.L[i] = prevOf(v, many(v, 9)[8]).L[0]
		}
		l[0] = node{}
		has(t, g, names(id), ids)
		slices.Sort(ids)
		list(t, "Missing", g.Missing(), ids...)
	}
}

// What is answered doesn't tell on what is answered later.
func TestP46AnswersStay(t *testing.T) {
	g := graphOf(t, 1, event("$c:x", "$b:x", "$a:x"), event("$b:x", "$z:x"), event("$a:x"))
	asked := func() [][]string {
		taken, _ := g.Order()
		return [][]string{g.IDs(), g.Prev("$c:x"), taken, g.Heads(), g.Missing(), slices.Collect(g.Past("$c:x"))}
	}
	want := [][]string{names("$c:x", "$b:x", "$a:x"), names("$b:x", "$a:x"), names("$b:x", "$a:x", "$c:x"), names("$c:x"), names("$z:x"), names("$a:x", "$b:x")}
	for range 3 {
		got := asked()
		if slices.CompareFunc(got, want, slices.Compare[[]string]) != 0 {
			t.Errorf("%q", got)
		}
		for _, l := range got {
			clear(l)
		}
	}
	var met []string
	seq := g.Past("$c:x")
	for a := range seq {
		for b := range seq { // one range within another
			met = append(met, a+b)
		}
	}
	list(t, "Past, within itself", met, "$a:x$a:x", "$a:x$b:x", "$b:x$a:x", "$b:x$b:x")
}

func TestP7EveryCallEnds(t *testing.T) {
	for i := range 64 {
		for _, v := range []int{1 << i, 1<<i - 1, -1 << i} {
			for kind := -1; kind < 8; kind++ {
				prev := node{Kind: kind, N: 1, S: "$a:b", K: names("sha256"), L: []node{{Kind: kind, S: "$a:b", L: []node{tree.Text("$a:b"), {Kind: kind}}}}}
				n := node{Kind: kind, S: "$a:b", K: names("event_id", "prev_events"), L: []node{tree.Text("$a:b"), prev}}
				dag.Of(v, n)
				dag.Of(v, n, n, node{})
				dag.Of(v, mapOf(n.K, n.L...))
			}
		}
	}
	dag.Of(3, nil...)
}
