package caps_test

import (
	"encoding/base64"
	"math"
	"math/rand"
	"slices"
	"strconv"
	"strings"
	"testing"

	"sealring/api"
	"sealring/caps"
	"sealring/tree"
)

type node = api.Node

var noVersions = []int{0, -1, 12, 13, 100, math.MinInt, math.MaxInt}

func mapOf(keys []string, values ...node) node { return node{Kind: api.Map, K: keys, L: values} }

func texts(l ...string) node {
	var out []node
	for _, s := range l {
		out = append(out, tree.Text(s))
	}
	return tree.List(out...)
}

// in is a node in so many lists.
func in(lists int, n node) node {
	for range lists {
		n = tree.List(n)
	}
	return n
}

func sized(t *testing.T, what string, n node, want api.Errno) {
	t.Helper()
	if e := caps.Size(n); e != want {
		t.Errorf("%s: %d, not %d", what, e, want)
	}
}

func TestP30_1SizeAtTheEdge(t *testing.T) {
	for what, of := range map[string]func(more int) node{
		"a Text":     func(more int) node { return tree.Text(strings.Repeat("a", 65534+more)) },
		"two bytes":  func(more int) node { return tree.Text(strings.Repeat("\u00e9", 32767-1) + strings.Repeat("a", 2+more)) },
		"escapes":    func(more int) node { return tree.Text(strings.Repeat("\x00", 10922) + strings.Repeat("a", 2+more)) },
		"short ones": func(more int) node { return tree.Text(strings.Repeat("\n", 32767-1) + strings.Repeat("a", 2+more)) },
		"a Map":      func(more int) node { return mapOf([]string{"k"}, tree.Text(strings.Repeat("a", 65528+more))) },
		"its key":    func(more int) node { return mapOf([]string{strings.Repeat("a", 65530+more)}, tree.Int(1)) },
		"a List": func(more int) node {
			return tree.List(append(slices.Repeat([]node{tree.Int(7)}, 32765), tree.Text(strings.Repeat("a", 2+more)))...)
		},
	} {
		sized(t, what, of(-1), api.OK)
		sized(t, what, of(0), api.OK)
		sized(t, what, of(1), api.ErrBig)
	}
	for _, n := range []node{tree.Null(), tree.Bool(false), tree.Int(-1), tree.Text(""), tree.List(), tree.Map()} {
		sized(t, "a short one", n, api.OK)
	}
	sized(t, "a long one", tree.Text(strings.Repeat("a", 1<<20)), api.ErrBig)
}

func TestP30_1SizeOfWhatMayNotBe(t *testing.T) {
	long := strings.Repeat("a", 70000)
	for want, l := range map[api.Errno][]node{
		api.ErrKind:  {{}, {Kind: 7}, {Kind: api.Null, N: 1}},
		api.ErrRange: {tree.Int(1 << 53), {Kind: api.Bool, N: 2}},
		api.ErrText:  {tree.Text("\xff"), tree.Text(long + "\xff")},
		api.ErrArg:   {mapOf([]string{"a"})},
		api.ErrTwice: {mapOf([]string{"a", "a"}, tree.Text(long), tree.Null())},
		api.ErrDeep:  {in(64, tree.Null()), in(1000000, tree.Null())},
	} {
		for _, n := range l {
			sized(t, "alone", n, want)
			if want != api.ErrDeep {
				sized(t, "behind a long one", tree.List(tree.Text(long), n), want)
			}
		}
	}
}

func TestP30_1HashAndSign(t *testing.T) {
	r := rand.New(rand.NewSource(30))
	for many := range 130 {
		b := make([]byte, many)
		r.Read(b)
		s := base64.RawStdEncoding.EncodeToString(b)
		hash, sign := api.ErrHash, api.ErrSign
		if many == 32 {
			hash = api.OK
		}
		if many == 64 {
			sign = api.OK
		}
		if e := caps.Hash(s); e != hash {
			t.Errorf("Hash(%q): %d", s, e)
		}
		if e := caps.Sign(s); e != sign {
			t.Errorf("Sign(%q): %d", s, e)
		}
	}
}

func TestP30_1WhatIsNoHashAndNoSign(t *testing.T) {
	for _, l := range []struct {
		call  func(s string) api.Errno
		signs int
		want  api.Errno
	}{{caps.Hash, 43, api.ErrHash}, {caps.Sign, 86, api.ErrSign}} {
		ahead := strings.Repeat("A", l.signs-1)
		for _, s := range []string{ahead + "A", "+/" + ahead[1:], "/+" + ahead[2:] + "A", strings.Repeat("/", l.signs-1) + "w"} {
			if e := l.call(s); e != api.OK {
				t.Errorf("%q: %d", s, e)
			}
		}
		for _, s := range []string{
			"", "A", ahead, ahead + "AA", ahead + "AAA", ahead + "A=", ahead + "A==", ahead + "=", // too short, too long, filled up
			"-" + ahead, "_" + ahead, "-_" + ahead[1:], // the signs of URLs
			ahead + "B", ahead + "/", // what fills up isn't noughts
			" " + ahead, ahead + " ", ahead + "A\n", "\x00" + ahead, "\xff" + ahead, ahead + "\u00e9", ahead[2:] + "\u00e9A", strings.Repeat("A", 1<<20),
		} {
			if e := l.call(s); e != l.want {
				t.Errorf("%q: %d", s, e)
			}
		}
	}
	if s := strings.Repeat("A", 42) + "E"; caps.Hash(s) != api.OK || caps.Hash(strings.Repeat("A", 42)+"D") != api.ErrHash {
		t.Error("the last sign has four bits of the last byte")
	}
}

// Names of events: of own versions two parts, of others hashes.
var (
	own     = []string{"$a:b.c", "$d:b.c", "$A+/!x:[::1]:80", "$1:1.2.3.4"}
	noughts = strings.Repeat("A", 43)
)

// idsOf are some that events of a version may have.
func idsOf(v int) []string {
	switch {
	case v <= 2:
		return own
	case v == 3:
		return []string{"$" + noughts, "$+/" + noughts[2:], "$" + noughts[1:] + "E", "$" + noughts[1:] + "w"}
	}
	return []string{"$" + noughts, "$-_" + noughts[2:], "$" + noughts[1:] + "E", "$" + noughts[1:] + "w"}
}

func pair(id string) node {
	return tree.List(tree.Text(id), tree.Map(tree.Text("sha256"), tree.Text(noughts)))
}

// named is as Name has it, by the tests' own reckoning.
func named(v int, ids ...string) node {
	out := node{Kind: api.List}
	for _, id := range ids {
		if v <= 2 {
			out.L = append(out.L, pair(id))
		} else {
			out.L = append(out.L, tree.Text(id))
		}
	}
	return out
}

func tells(t *testing.T, v int, n node, most int, want ...string) {
	t.Helper()
	if got, e := caps.Refs(v, n, most); !slices.Equal(got, want) || e != api.OK {
		t.Errorf("Refs(%d, %+v, %d): %q, %d, not %q", v, n, most, got, e, want)
	}
}

func refuses(t *testing.T, v int, n node, most int, want api.Errno) {
	t.Helper()
	if got, e := caps.Refs(v, n, most); len(got) != 0 || e != want {
		t.Errorf("Refs(%d, %+v, %d): %q, %d, not %d", v, n, most, got, e, want)
	}
}

func TestP30_2RefsOfEachVersion(t *testing.T) {
	for v := 1; v <= 11; v++ {
		ids := idsOf(v)
		for many := range len(ids) + 1 {
			tells(t, v, named(v, ids[:many]...), 20, ids[:many]...)
			tells(t, v, named(v, ids[:many]...), many, ids[:many]...)
		}
		back := slices.Clone(ids)
		slices.Reverse(back)
		tells(t, v, named(v, back...), math.MaxInt, back...)
	}
	for v := 3; v <= 11; v++ {
		for i, id := range []string{"$+/" + noughts[2:], "$-_" + noughts[2:]} {
			if v == 3 == (i == 0) {
				tells(t, v, texts(id), 1, id)
			} else {
				refuses(t, v, texts(id), 1, api.ErrID)
			}
		}
	}
}

func TestP30_2RefsNoVersionNoList(t *testing.T) {
	for _, v := range noVersions {
		refuses(t, v, named(1, own...), 20, api.ErrVersion)
		refuses(t, v, tree.List(), 20, api.ErrVersion)
		refuses(t, v, tree.Null(), -1, api.ErrVersion)
		refuses(t, v, node{}, 0, api.ErrVersion)
	}
	for v := 1; v <= 11; v++ {
		for _, n := range []node{{}, tree.Null(), tree.Bool(true), tree.Int(1), tree.Text(idsOf(v)[0]), tree.Map(), mapOf([]string{"a"}, named(v, idsOf(v)...).L[0]), {Kind: 7}, {Kind: api.Text, L: named(v, idsOf(v)...).L}} {
			refuses(t, v, n, 20, api.ErrType)
			refuses(t, v, n, 0, api.ErrType)
		}
	}
}

func TestP30_2RefsAtMost(t *testing.T) {
	for v := 1; v <= 11; v++ {
		ids := idsOf(v)
		n := named(v, ids...)
		for most := range len(ids) {
			refuses(t, v, n, most, api.ErrMany)
		}
		for _, most := range []int{0, -1, -20, math.MinInt} {
			refuses(t, v, n, most, api.ErrMany)
			refuses(t, v, tree.List(tree.Int(1)), most, api.ErrMany)
			tells(t, v, tree.List(), most)
		}
		refuses(t, v, tree.List(tree.Int(1), tree.Null()), 1, api.ErrMany)
		refuses(t, v, named(v, ids[0], ids[0]), 1, api.ErrMany)
		refuses(t, v, named(v, ids[0], ids[0]), 2, api.ErrTwice)
	}
	many := node{Kind: api.List}
	var ids []string
	for i := range 5000 {
		ids = append(ids, "$"+strconv.Itoa(i)+":a.b")
		many.L = append(many.L, pair(ids[i]))
	}
	tells(t, 1, many, 5000, ids...)
	refuses(t, 1, many, 4999, api.ErrMany)
	refuses(t, 3, many, 5000, api.ErrType)
	many.L[4999] = pair(ids[0])
	refuses(t, 2, many, 5000, api.ErrTwice)
}

// wrongPairs are no pairs, or have no hash, and what is told of them.
func wrongPairs() map[api.Errno][]node {
	id := tree.Text(own[1])
	hash := tree.Map(tree.Text("sha256"), tree.Text(noughts))
	bad := tree.Text("x")
	with := func(v node) node { return tree.List(id, tree.Map(tree.Text("sha256"), v)) }
	return map[api.Errno][]node{
		api.ErrType: {
			{}, tree.Null(), tree.Int(1), id, hash, tree.List(), tree.List(id), tree.List(id, hash, hash), tree.List(hash, id), tree.List(id, id), tree.List(hash, hash), tree.List(tree.Null(), hash), tree.List(id, tree.List()), tree.List(id, tree.Null()),
			{Kind: api.Map, L: []node{id, hash}}, {Kind: api.Map, K: []string{"a", "b"}, L: []node{id, hash}}, {Kind: api.Text, L: []node{id, hash}},
			tree.List(bad, tree.Null()), tree.List(bad), tree.List(bad, tree.Text("x")), tree.List(bad, hash, hash), // the shape is ahead of the ID
			tree.List(id, tree.Map()), tree.List(id, tree.Map(tree.Text("SHA256"), tree.Text(noughts))), tree.List(id, mapOf([]string{"sha256"})), with(tree.Null()), with(tree.Int(1)), with(tree.List(tree.Text(noughts))), with(hash), with(node{Kind: api.Null, S: noughts}),
		},
		api.ErrID: {
			pair(""), pair("x"), pair("$a"), pair("$:b.c"), pair("@a:b.c"), pair("!a:b.c"), pair("$" + noughts), pair("$a b:c.d"),
			tree.List(bad, tree.Map()), tree.List(bad, tree.Map(tree.Text("sha256"), tree.Text(""))), // the ID is ahead of the hash
		},
		api.ErrName: {pair("$a:"), pair("$a:b_c"), pair("$a:b.c:0")},
		api.ErrLong: {pair("$" + strings.Repeat("a", 251) + ":b.c"), pair("$a:" + strings.Repeat("b", 231))},
		api.ErrHash: {
			with(tree.Text("")), with(tree.Text(noughts[1:])), with(tree.Text(noughts + "A")), with(tree.Text(noughts + "=")), with(tree.Text(noughts[1:] + "B")), with(tree.Text("-" + noughts[1:])), with(tree.Text("\xff")),
			tree.List(id, mapOf([]string{"sha256", "sha256"}, tree.Text(""), tree.Text(noughts))),
		},
	}
}

// wrongTexts are no names of events in the versions from 3 on, and what is told of them.
func wrongTexts() map[api.Errno][]node {
	return map[api.Errno][]node{
		api.ErrType: {{}, tree.Null(), tree.Bool(true), tree.Int(1), tree.List(), tree.Map(), pair("$" + noughts), pair("x"), tree.List(tree.Text("$" + noughts)), {Kind: api.Null, S: "$" + noughts}},
		api.ErrID:   {tree.Text(""), tree.Text("$"), tree.Text(noughts + "A"), tree.Text("$" + noughts[1:]), tree.Text("$" + noughts + "A"), tree.Text("$" + noughts[1:] + "B"), tree.Text("$a:b.c"), tree.Text("!" + noughts), tree.Text("$" + noughts + "=")},
		api.ErrLong: {tree.Text(strings.Repeat("a", 256)), tree.Text("$" + strings.Repeat("A", 255))},
	}
}

func TestP30_2RefsOfWrongElements(t *testing.T) {
	for v := 1; v <= 11; v++ {
		wrong := wrongTexts()
		if v <= 2 {
			wrong = wrongPairs()
		}
		good := named(v, idsOf(v)...).L
		for want, l := range wrong {
			for _, n := range l {
				refuses(t, v, tree.List(n), 20, want)
				refuses(t, v, tree.List(good[0], n, node{}), 20, want)
				refuses(t, v, tree.List(good[0], good[2], n), 3, want)
				refuses(t, v, tree.List(good[0], good[0], n), 20, api.ErrTwice)
				refuses(t, v, tree.List(n, good[0], good[0]), 20, want)
			}
		}
	}
}

func TestP30_2RefsThereTwice(t *testing.T) {
	other := tree.List(tree.Text(own[0]), tree.Map(tree.Text("sha256"), tree.Text(noughts[1:]+"E"), tree.Text("more"), tree.Null()))
	for v := 1; v <= 2; v++ {
		tells(t, v, tree.List(other), 20, own[0])
		refuses(t, v, tree.List(pair(own[0]), other), 20, api.ErrTwice) // whatever the hash is
		noHash := tree.List(tree.Text(own[0]), tree.Map())
		refuses(t, v, tree.List(pair(own[0]), noHash), 20, api.ErrType) // what is wrong with the hash is ahead
		badHash := tree.List(tree.Text(own[0]), tree.Map(tree.Text("sha256"), tree.Text("")))
		refuses(t, v, tree.List(pair(own[0]), badHash), 20, api.ErrHash)
	}
	for v := 1; v <= 11; v++ {
		ids := idsOf(v)
		for i := range ids {
			for j := range i {
				twice := slices.Clone(ids)
				twice[i] = twice[j]
				refuses(t, v, named(v, twice...), 20, api.ErrTwice)
			}
		}
	}
	tells(t, 1, named(1, "$a:b.c", "$A:b.c", "$a:B.c", "$a:b.c:80"), 20, "$a:b.c", "$A:b.c", "$a:B.c", "$a:b.c:80")
}

func TestP30_3Name(t *testing.T) {
	for v := 1; v <= 11; v++ {
		for _, ids := range [][]string{nil, {}, idsOf(v), {"x"}, {"", ""}, {"\xff", "$a:b.c", "\xff"}} {
			if got := caps.Name(v, ids...); !tree.Exact(got, named(v, ids...)) {
				t.Errorf("Name(%d, %q): %+v", v, ids, got)
			}
		}
	}
	for _, v := range noVersions {
		for _, ids := range [][]string{nil, own, {"x"}} {
			if got := caps.Name(v, ids...); !tree.Exact(got, node{Kind: api.List}) {
				t.Errorf("Name(%d, %q): %+v", v, ids, got)
			}
		}
	}
}

func TestP30_4WhatIsNamedIsTold(t *testing.T) {
	r := rand.New(rand.NewSource(304))
	for range 300 {
		v := 1 + r.Intn(11)
		var ids []string
		for range r.Intn(8) {
			b := make([]byte, 32)
			r.Read(b)
			switch {
			case v <= 2:
				ids = append(ids, "$"+strconv.Itoa(r.Int())+":a.b")
			case v == 3:
				ids = append(ids, "$"+base64.RawStdEncoding.EncodeToString(b))
			default:
				ids = append(ids, "$"+base64.RawURLEncoding.EncodeToString(b))
			}
		}
		n := caps.Name(v, ids...)
		if tree.Check(n) != api.OK {
			t.Errorf("%+v may not be", n)
		}
		tells(t, v, n, len(ids), ids...)
		if len(ids) > 0 {
			refuses(t, v, caps.Name(v, append(ids, ids[0])...), 20, api.ErrTwice)
			refuses(t, v, caps.Name(v, append(ids, "x")...), 20, api.ErrID)
		}
	}
}

func TestP30WhatIsHandedInIsNotChanged(t *testing.T) {
	n := named(1, own...)
	caps.Refs(1, n, 20)
	caps.Size(n)
	ids := slices.Clone(own)
	caps.Name(1, ids[:2]...)
	caps.Name(3, ids[:2]...)
	if !tree.Exact(n, named(1, own...)) || !slices.Equal(ids, own) {
		t.Error(n, ids)
	}
}
