package batch_test

import (
	"bytes"
	"encoding/base64"
	"encoding/json"
	"iter"
	"math"
	"math/rand"
	"slices"
	"strconv"
	"strings"
	"testing"

	"sealring/api"
	"sealring/batch"
	"sealring/decode"
	"sealring/encode"
	"sealring/frame"
	"sealring/tree"
)

type (
	node = api.Node
	txn  = api.Txn
	load = batch.Load
)

var noVersions = []int{0, -1, 12, 13, 100, math.MinInt, math.MaxInt}

func isOwn(v int) bool { return v <= 2 }

func many(n node, times int) []node { return slices.Repeat([]node{n}, times) }

// edu is a short-lived event with so many bytes of text in it.
func edu(kind string, size int) node {
	return tree.Map(tree.Text("edu_type"), tree.Text(kind), tree.Text("content"), tree.Map(tree.Text("x"), tree.Text(strings.Repeat("x", size))))
}

// event is one that may be, with so many bytes of text in it; its fields don't stand in the order of its form.
func event(v, size int) node {
	hash := base64.RawStdEncoding.EncodeToString(make([]byte, 32))
	n := tree.Map(
		tree.Text("type"), tree.Text("x"), tree.Text("room_id"), tree.Text("!r:o"), tree.Text("sender"), tree.Text("@s:a.b"),
		tree.Text("content"), tree.Map(tree.Text("z"), tree.Null(), tree.Text("body"), tree.Text(strings.Repeat("b", size))),
		tree.Text("depth"), tree.Int(7), tree.Text("origin_server_ts"), tree.Int(8), tree.Text("prev_events"), tree.List(), tree.Text("auth_events"), tree.List(),
		tree.Text("hashes"), tree.Map(tree.Text("sha256"), tree.Text(hash)), tree.Text("signatures"), tree.Map(),
	)
	if isOwn(v) {
		return tree.Put(n, "event_id", tree.Text("$e:a.b"))
	}
	return n
}

// numbered is a row of events, each another one.
func numbered(n node, times int) []node {
	var l []node
	for i := range times {
		l = append(l, tree.Put(n, "number", tree.Int(int64(i))))
	}
	return l
}

// anyOf is a value as the library has it.
func anyOf(n node) any {
	switch n.Kind {
	case api.Bool:
		return n.N == 1
	case api.Int:
		return n.N
	case api.Text:
		return n.S
	case api.List:
		l := []any{}
		for _, m := range n.L {
			l = append(l, anyOf(m))
		}
		return l
	case api.Map:
		m := map[string]any{}
		for i, key := range n.K {
			m[key] = anyOf(n.L[i])
		}
		return m
	}
	return nil
}

// formOf is a transaction's form, by the library's means (of plain texts).
func formOf(t *testing.T, x txn) string {
	t.Helper()
	m := map[string]any{"origin": x.Origin, "origin_server_ts": x.TS, "pdus": anyOf(tree.List(x.Pdus...))}
	if len(x.Edus) > 0 {
		m["edus"] = anyOf(tree.List(x.Edus...))
	}
	var b bytes.Buffer
	w := json.NewEncoder(&b)
	w.SetEscapeHTML(false)
	if e := w.Encode(m); e != nil {
		t.Fatal(e)
	}
	return strings.TrimSuffix(b.String(), "\n")
}

// exact holds transactions against each other, in the order in which all stands.
func exact(a, b txn) bool {
	return a.Origin == b.Origin && a.TS == b.TS && slices.EqualFunc(a.Pdus, b.Pdus, tree.Exact) && slices.EqualFunc(a.Edus, b.Edus, tree.Exact)
}

// counts are how many events transactions have.
func counts(l []txn) [][2]int {
	var out [][2]int
	for _, x := range l {
		out = append(out, [2]int{len(x.Pdus), len(x.Edus)})
	}
	return out
}

// splits asks for so many Pdus and Edus in each transaction, and whether they are l's, in order.
func splits(t *testing.T, v int, l load, want ...[2]int) {
	t.Helper()
	got, e := batch.Split(v, l)
	if e != api.OK || !slices.Equal(counts(got), want) {
		t.Errorf("Split(%d, %d and %d): %v, %d, not %v", v, len(l.Pdus), len(l.Edus), counts(got), e, want)
		return
	}
	pdus, edus := l.Pdus, l.Edus
	for i, n := range want {
		if !exact(got[i], txn{Origin: l.Origin, TS: l.TS, Pdus: pdus[:n[0]], Edus: edus[:n[1]]}) {
			t.Errorf("Split(%d, %d and %d): other ones at %d", v, len(l.Pdus), len(l.Edus), i)
		}
		pdus, edus = pdus[n[0]:], edus[n[1]:]
	}
	if len(pdus) > 0 || len(edus) > 0 {
		t.Errorf("%d and %d are left", len(pdus), len(edus))
	}
	tells(t, v, l, got...)
}

// tells asks for the texts of transactions; of few, twice over, and left at each place.
func tells(t *testing.T, v int, l load, want ...txn) {
	t.Helper()
	all := batch.All(v, l)
	leaves := []int{len(want) + 1}
	if len(l.Pdus)+len(l.Edus) > 50 && len(want) < 4 {
		leaves = append(leaves, len(want)+1, 1, 2, 3)
	}
	for _, leave := range leaves {
		at := 0
		for place, text := range all {
			if at >= len(want) || place != at || text != formOf(t, want[at]) {
				t.Fatalf("All: %d, %d bytes at %d of %d", place, len(text), at, len(want))
			}
			if at++; at == leave {
				break
			}
		}
		if at != min(leave, len(want)) {
			t.Errorf("All: %d, not %d", at, min(leave, len(want)))
		}
	}
}

func refuses(t *testing.T, v int, l load, want api.Errno) {
	t.Helper()
	if got, e := batch.Split(v, l); len(got) != 0 || e != want {
		t.Errorf("Split(%d, %q, %d and %d): %d, %d, not %d", v, l.Origin, len(l.Pdus), len(l.Edus), len(got), e, want)
	}
	for place, text := range batch.All(v, l) {
		t.Errorf("All: %d, %d bytes beside the error %d", place, len(text), want)
	}
}

func TestP54_1HowMany(t *testing.T) {
	for _, v := range []int{1, 3, 11} {
		p, e := numbered(event(v, 1), 151), numbered(edu("x", 1), 301)
		of := func(pdus, edus int) load { return load{Origin: "a.b", TS: 5, Pdus: p[:pdus], Edus: e[:edus]} }
		splits(t, v, of(0, 0))
		splits(t, v, of(1, 0), [2]int{1, 0})
		splits(t, v, of(0, 1), [2]int{0, 1})
		splits(t, v, of(1, 1), [2]int{1, 1})
		splits(t, v, of(49, 0), [2]int{49, 0})
		splits(t, v, of(50, 0), [2]int{50, 0})
		splits(t, v, of(51, 0), [2]int{50, 0}, [2]int{1, 0})
		splits(t, v, of(100, 0), [2]int{50, 0}, [2]int{50, 0})
		splits(t, v, of(151, 0), [2]int{50, 0}, [2]int{50, 0}, [2]int{50, 0}, [2]int{1, 0})
		splits(t, v, of(0, 99), [2]int{0, 99})
		splits(t, v, of(0, 100), [2]int{0, 100})
		splits(t, v, of(0, 101), [2]int{0, 100}, [2]int{0, 1})
		splits(t, v, of(0, 301), [2]int{0, 100}, [2]int{0, 100}, [2]int{0, 100}, [2]int{0, 1})
		splits(t, v, of(50, 100), [2]int{50, 100})
		// The Edus go on in the last one that has Pdus, and not in one ahead of it.
		splits(t, v, of(51, 100), [2]int{50, 0}, [2]int{1, 100})
		splits(t, v, of(50, 101), [2]int{50, 100}, [2]int{0, 1})
		splits(t, v, of(120, 230), [2]int{50, 0}, [2]int{50, 0}, [2]int{20, 100}, [2]int{0, 100}, [2]int{0, 30})
	}
}

// room is how many bytes more a transaction may have.
func room(t *testing.T, x txn) int {
	t.Helper()
	return 262144 - len(formOf(t, x))
}

// The whole form counts, with all that stands around the events, to the byte.
func TestP54_1HowLong(t *testing.T) {
	for i, v := range []int{1, 3, 11} {
		empty := load{Origin: []string{"a.b", "[::1]:80", "c"}[i], TS: []int64{0, 1234567, api.MaxInt}[i]}
		l := empty
		l.Pdus = append(many(event(v, 60000), 4), event(v, 0))
		left := room(t, txn(l))
		for size, want := range map[int][][2]int{left: {{5, 0}}, left + 1: {{4, 0}, {1, 0}}, left + 2: {{4, 0}, {1, 0}}} {
			l.Pdus[4] = event(v, size)
			splits(t, v, l, want...)
		}
		l.Pdus[4], l.Edus = event(v, 7), []node{edu("x", 0)}
		left = room(t, txn(l))
		for size, want := range map[int][][2]int{left: {{5, 1}}, left + 1: {{5, 0}, {0, 1}}, left + 10: {{5, 0}, {0, 1}}} {
			l.Edus = []node{edu("x", size)}
			splits(t, v, l, want...)
		}
		l.Edus = []node{edu("x", left-100), edu("y", 0)}
		left = room(t, txn(l))
		for size, want := range map[int][][2]int{left: {{5, 2}}, left + 1: {{5, 1}, {0, 1}}} {
			l.Edus = []node{l.Edus[0], edu("y", size)}
			splits(t, v, l, want...)
		}
		l = empty
		l.Edus = []node{edu("x", 100000), edu("x", 5), edu("y", 0)}
		left = room(t, txn(l))
		for size, want := range map[int][][2]int{left: {{0, 3}}, left + 1: {{0, 2}, {0, 1}}} {
			l.Edus[2] = edu("y", size)
			splits(t, v, l, want...)
		}
	}
}

// A byte may stand for six in the form.
func TestP54_1HowLongTheFormIs(t *testing.T) {
	l := load{Origin: "a.b", Edus: many(edu(strings.Repeat("\x00", 250), 130000-6*250), 2)}
	splits(t, 3, l, [2]int{0, 2})
	l.Edus = many(edu(strings.Repeat("\x00", 255), 131300-6*255), 2)
	splits(t, 3, l, [2]int{0, 1}, [2]int{0, 1})
	if s, _, _ := encode.Encode(3, txn{Origin: "a.b", Edus: l.Edus[:1]}); len(s) < 131072 || len(s) > 132000 {
		t.Error(len(s))
	}
}

// What would fit further ahead isn't put there.
func TestP54_1TheLastOneAlone(t *testing.T) {
	for _, v := range []int{2, 11} {
		great, small := event(v, 65000), event(v, 10)
		splits(t, v, load{Origin: "a.b", Pdus: append(many(great, 5), small, great, great, small)}, [2]int{4, 0}, [2]int{5, 0})
		edus := []node{edu("x", 262040), edu("x", 1), edu("x", 200000), edu("y", 1)}
		splits(t, v, load{Origin: "a.b", Pdus: append(many(great, 4), small), Edus: edus}, [2]int{5, 0}, [2]int{0, 1}, [2]int{0, 3})
		slices.Reverse(edus)
		splits(t, v, load{Origin: "a.b", Pdus: append(many(great, 4), small), Edus: edus}, [2]int{5, 1}, [2]int{0, 2}, [2]int{0, 1})
	}
}

// faults are, by the error, loads that can't be sent because of their origin or their time.
func faults() map[api.Errno][]load {
	return map[api.Errno][]load{
		api.ErrName:  {{}, {Origin: "a..b"}, {Origin: "", TS: 5}, {Origin: "a.b:0"}},
		api.ErrLong:  {{Origin: strings.Repeat("a", 231)}},
		api.ErrText:  {{Origin: "\xff"}, {Origin: "\xff", TS: -1}},
		api.ErrRange: {{Origin: "a.b", TS: -1}, {Origin: "a..b", TS: -7}, {Origin: "a.b", TS: api.MaxInt + 1}, {TS: math.MinInt64}, {Origin: "a.b", TS: math.MaxInt64}},
	}
}

func TestP54_1OriginAndTimeAreToldFirst(t *testing.T) {
	for v := 1; v <= 11; v++ {
		for want, l := range faults() {
			for _, x := range l {
				refuses(t, v, x, want)
				x.Pdus, x.Edus = many(event(v, 1), 60), []node{edu("x", 1)}
				refuses(t, v, x, want)
				x.Pdus, x.Edus = []node{{}, tree.Null()}, []node{tree.Null(), edu("", 1)}
				refuses(t, v, x, want)
			}
		}
	}
	for _, v := range noVersions {
		for _, x := range []load{{}, {Origin: "a.b"}, {Origin: "a.b", Pdus: []node{event(3, 1)}}, {Origin: "a.b", Edus: []node{edu("x", 1)}}, {Origin: "a..b", TS: -1, Pdus: []node{{}}}} {
			refuses(t, v, x, api.ErrVersion)
		}
	}
}

// badPdus are events that can't be sent, by the error.
func badPdus(v int) map[api.Errno][]node {
	n := event(v, 1)
	deep := tree.Null()
	for range 60 {
		deep = tree.List(deep)
	}
	l := map[api.Errno][]node{
		api.ErrKind:  {{}, tree.Put(n, "x", node{Kind: 7})},
		api.ErrText:  {tree.Text("\xff"), tree.Put(n, "x", tree.Text("\xff"))},
		api.ErrType:  {tree.Null(), tree.Int(1), tree.List(n), tree.Put(n, "sender", tree.Null()), tree.Put(n, "signatures", tree.Map(tree.Text("a.b"), tree.Null()))},
		api.ErrField: {tree.Map(), tree.Without(n, "depth"), tree.Put(n, "hashes", tree.Map()), edu("x", 1)},
		api.ErrRange: {tree.Put(n, "depth", tree.Int(-1)), tree.Int(1 << 53)},
		api.ErrMany:  {tree.Put(n, "prev_events", tree.List(many(tree.Null(), 21)...))},
		api.ErrBig:   {event(v, 65536), event(v, 300000)},
		api.ErrDeep:  {tree.Put(n, "content", tree.Map(tree.Text("x"), deep))}, // it may be by itself, but not within a transaction
	}
	if !isOwn(v) {
		l[api.ErrMore] = []node{tree.Put(n, "event_id", tree.Text("$e:a.b"))}
	}
	return l
}

// badEdus are short-lived events that can't be sent, by the error.
func badEdus() map[api.Errno][]node {
	return map[api.Errno][]node{
		api.ErrKind:  {{}},
		api.ErrText:  {tree.Text("\xff")},
		api.ErrType:  {tree.Null(), tree.List(), tree.Put(edu("x", 1), "edu_type", tree.Int(1)), tree.Put(edu("x", 1), "content", tree.List())},
		api.ErrField: {tree.Map(), tree.Without(edu("x", 1), "content"), event(3, 1)},
		api.ErrShort: {edu("", 1)},
		api.ErrLong:  {edu(strings.Repeat("x", 256), 1), edu("x", 262144), edu("x", 1000000)},
	}
}

// The first one that can't be sent is told, Pdus ahead of Edus, however much there is.
func TestP54_1EachAlone(t *testing.T) {
	for v := 1; v <= 11; v++ {
		good, other := event(v, 1), tree.Put(event(v, 1), "prev_events", tree.Int(7))
		for want, l := range badPdus(v) {
			for _, n := range l {
				refuses(t, v, load{Origin: "a.b", Pdus: []node{n}}, want)
				refuses(t, v, load{Origin: "a.b", Pdus: []node{good, n, other, edu("x", 1)}, Edus: []node{edu("", 1)}}, want)
				refuses(t, v, load{Origin: "a.b", Pdus: append(many(good, 60), n), Edus: many(edu("x", 1), 120)}, want)
			}
		}
		for want, l := range badEdus() {
			for _, n := range l {
				refuses(t, v, load{Origin: "a.b", Edus: []node{n}}, want)
				refuses(t, v, load{Origin: "a.b", Pdus: many(good, 2), Edus: append(many(edu("x", 0), 120), n, edu("", 1), tree.Map())}, want)
				refuses(t, v, load{Origin: "a.b", Pdus: []node{good, other}, Edus: []node{n}}, api.ErrType)
			}
		}
	}
}

// Whether a short-lived event is too long is asked of a transaction that has it alone, of that origin and time.
func TestP54_1HowLongAlone(t *testing.T) {
	for _, x := range []load{{Origin: "a.b"}, {Origin: "longer.than.that:8448", TS: api.MaxInt}} {
		x.Edus = []node{edu("x", 0)}
		left := room(t, txn(x))
		x.Edus = []node{edu("x", left)}
		splits(t, 5, x, [2]int{0, 1})
		x.Edus = many(x.Edus[0], 3)
		splits(t, 5, x, [2]int{0, 1}, [2]int{0, 1}, [2]int{0, 1})
		x.Pdus = []node{event(5, 0)}
		splits(t, 5, x, [2]int{1, 0}, [2]int{0, 1}, [2]int{0, 1}, [2]int{0, 1})
		x.Edus = []node{edu("y", 0), edu("x", left+1)}
		refuses(t, 5, x, api.ErrLong)
	}
}

func joins(t *testing.T, want load, l ...txn) {
	t.Helper()
	if got := batch.Join(l...); !exact(txn(got), txn(want)) {
		t.Errorf("Join of %d: %+v, not %+v", len(l), got, want)
	}
}

func TestP54_2Join(t *testing.T) {
	a, b, c, d := tree.Int(1), tree.Null(), edu("x", 0), node{}
	joins(t, load{})
	joins(t, load{}, txn{})
	joins(t, load{}, txn{}, txn{Origin: "a.b", TS: 1})
	joins(t, load{Origin: "a.b", TS: 1}, txn{Origin: "a.b", TS: 1}, txn{Origin: "c", TS: 2})
	joins(t, load{Origin: "..", TS: -1, Pdus: []node{a, b, a}, Edus: []node{c, d}}, txn{Origin: "..", TS: -1, Pdus: []node{a, b}, Edus: []node{c}}, txn{}, txn{Origin: "x", Pdus: []node{a}, Edus: []node{d}})
	joins(t, load{Pdus: many(a, 120), Edus: many(c, 250)}, txn{Edus: many(c, 150)}, txn{Pdus: many(a, 120)}, txn{Origin: "x", TS: 3, Edus: many(c, 100)})
}

// An iterator is there also where it has nothing to tell, and one may go over it within itself.
func TestP54_2All(t *testing.T) {
	for _, all := range []iter.Seq2[int, string]{batch.All(0, load{}), batch.All(3, load{}), batch.All(3, load{Origin: "a.b"}), batch.All(3, load{Origin: "a.b", Pdus: []node{tree.Null()}})} {
		if all == nil {
			t.Fatal("nil")
		}
		for place, text := range all {
			t.Errorf("%d, %q", place, text)
		}
	}
	all := batch.All(3, load{Origin: "a.b", TS: 1, Edus: many(edu("x", 1), 101)})
	var met []string
	for a, s := range all {
		for b, u := range all {
			met = append(met, strconv.Itoa(a)+strconv.Itoa(b)+strconv.FormatBool(s == u))
		}
	}
	if !slices.Equal(met, []string{"00true", "01false", "10false", "11true"}) {
		t.Error(met)
	}
}

// reckoned is how events are put into transactions, by the chapter's words, each form written anew.
func reckoned(t *testing.T, l load) []txn {
	t.Helper()
	var out []txn
	put := func(pdus, edus []node) {
		if len(out) > 0 {
			x := out[len(out)-1]
			x.Pdus, x.Edus = slices.Concat(x.Pdus, pdus), slices.Concat(x.Edus, edus)
			if len(x.Pdus) <= 50 && len(x.Edus) <= 100 && len(formOf(t, x)) <= 262144 {
				out[len(out)-1] = x
				return
			}
		}
		out = append(out, txn{Origin: l.Origin, TS: l.TS, Pdus: pdus, Edus: edus})
	}
	for _, n := range l.Pdus {
		put([]node{n}, nil)
	}
	for _, n := range l.Edus {
		put(nil, []node{n})
	}
	return out
}

// anyLoad is some load that can be sent.
func anyLoad(r *rand.Rand, v int) load {
	l := load{Origin: []string{"a.b", "c:1", "1.2.3.4", "[::]"}[r.Intn(4)], TS: r.Int63n(1000)}
	size := func(most int) int { return r.Intn([]int{3, 3000, most}[r.Intn(3)]) }
	for range r.Intn(70) {
		l.Pdus = append(l.Pdus, tree.Put(event(v, size(60000)), "number", tree.Int(int64(len(l.Pdus)))))
	}
	for range r.Intn(130) {
		l.Edus = append(l.Edus, tree.Put(edu("x", size(40000)), "number", tree.Int(int64(len(l.Edus)))))
	}
	return l
}

func TestP54_1AnyLoads(t *testing.T) {
	r := rand.New(rand.NewSource(541))
	parts := 0
	for v := 1; v <= 11; v++ {
		l := anyLoad(r, v)
		want := reckoned(t, l)
		splits(t, v, l, counts(want)...)
		parts += len(want)
	}
	if parts < 30 {
		t.Error(parts)
	}
}

// Each can be written, and is taken out of its bytes as it was; joined they are what was there; what stands first in one wouldn't have fitted into the one ahead.
func TestP54_3WhatFollows(t *testing.T) {
	r := rand.New(rand.NewSource(543))
	for v := 1; v <= 11; v++ {
		l := anyLoad(r, v)
		got, e := batch.Split(v, l)
		if e != api.OK {
			t.Fatal(e)
		}
		joins(t, l, got...)
		for i, x := range got {
			s, name, e := encode.Encode(v, x)
			back, _, read := decode.Decode(v, nil, s)
			if name != "" || e != api.OK || read != api.OK || !frame.Same(back.Txn, x) || len(x.Pdus)+len(x.Edus) == 0 {
				t.Errorf("%d: %q, %d, %d", i, name, e, read)
			}
			if i == 0 {
				continue
			}
			next := txn{Pdus: x.Pdus[:min(1, len(x.Pdus))]}
			if len(x.Pdus) == 0 {
				next.Edus = x.Edus[:1]
			}
			if _, _, e := encode.Encode(v, txn(batch.Join(got[i-1], next))); e != api.ErrLong && e != api.ErrMany {
				t.Errorf("the first one of %d would have fitted: %d", i, e)
			}
		}
	}
}

func TestP54WhatIsHandedInIsNotChanged(t *testing.T) {
	spare := func(l ...node) []node { return append(make([]node, 0, 80), l...) }
	x := load{Origin: "a.b", Pdus: spare(numbered(event(3, 1), 55)...), Edus: spare(edu("x", 1), edu("y", 2))}
	l, e := batch.Split(3, x)
	if e != api.OK || len(l) != 2 {
		t.Fatal(len(l), e)
	}
	for range batch.All(3, x) {
	}
	batch.Split(3, load{Pdus: x.Pdus, Edus: x.Edus})
	parts := append(make([]txn, 0, 5), txn{Pdus: x.Pdus[:2], Edus: x.Edus[:1]}, txn{Pdus: x.Pdus[5:7], Edus: x.Edus[1:2]})
	joined := batch.Join(parts...)
	again := append(joined.Pdus, tree.Int(7))
	if !tree.Exact(again[4], tree.Int(7)) || !exact(parts[:3][2], txn{}) {
		t.Error(again)
	}
	if !slices.EqualFunc(x.Pdus, numbered(event(3, 1), 55), tree.Exact) || !slices.EqualFunc(x.Edus, []node{edu("x", 1), edu("y", 2)}, tree.Exact) {
		t.Errorf("%+v", x)
	}
	for _, n := range append(x.Pdus[55:80], x.Edus[2:80]...) {
		if !tree.Exact(n, node{}) {
			t.Errorf("%+v", n)
		}
	}
}

// Much is cut in no time that counts.
func TestP54Much(t *testing.T) {
	l := load{Origin: "a.b", Pdus: numbered(event(3, 4000), 1000), Edus: numbered(edu("x", 10), 3000)}
	got, e := batch.Split(3, l)
	if e != api.OK || len(got) < 20 || len(got) > 55 {
		t.Error(len(got), e)
	}
	joins(t, l, got...)
}

func TestP7EveryCallEnds(t *testing.T) {
	for kind := -1; kind < 9; kind++ {
		for i := range 64 {
			n := node{Kind: kind, N: 1 << i, S: "\xff"[:i%2], K: []string{"a", "a"}[:i%3], L: make([]node, i%4)}
			for _, v := range []int{3, 1 << i, -1 << i, i} {
				x := load{Origin: strings.Repeat("a", i*5), TS: 1<<i - 1, Pdus: many(n, i), Edus: many(n, 2*i)}
				batch.Split(v, x)
				batch.Split(v, load{Origin: "a.b", Pdus: x.Pdus})
				batch.Split(v, load{Origin: "a.b", Edus: x.Edus})
				for range batch.All(v, x) {
				}
				batch.Join(txn(x), txn{}, txn(x))
			}
		}
	}
}
