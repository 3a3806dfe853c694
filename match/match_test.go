package match_test

import (
	"math"
	"math/rand"
	"regexp"
	"slices"
	"strings"
	"testing"

	"sealring/api"
	"sealring/match"
	"sealring/tree"
)

type node = api.Node

type filter = match.Filter

func glob(t *testing.T, pattern, s string, want bool) {
	t.Helper()
	if got := match.Glob(pattern, s); got != want {
		t.Errorf("Glob(%q, %q): %v", pattern, s, got)
	}
}

func TestP52_1GlobByHand(t *testing.T) {
	for _, l := range [][2]string{{"m.*", "m.room"}, {"a*b*c", "axbc"}, {"", ""}, {"*", ""}, {"*", "abc"}, {"**", ""}, {"**", "a"}, {"a", "a"}, {"a*", "a"}, {"*a", "a"}, {"*a*", "a"}, {"a*a", "aa"}, {"a*b", "ab"}, {"a*b", "abb"}, {"a*b", "aabab"}, {"*ab*ab*", "abab"}, {"*.b", "a.b"}, {"a**b", "ab"}, {"*\xff", "\xff"}, {"\x00*", "\x00\x00"}, {"*", "*"}, {"a*", "a*"}, {"*abab*c", "abaababxc"}, {"?", "?"}, {".", "."}, {"[a]", "[a]"}, {"a\\*", "a\\x"}, {"\xc3*", "\u00e9"}} {
		glob(t, l[0], l[1], true)
	}
	for _, l := range [][2]string{{"a*b", "a"}, {"a*b", "b"}, {"", "a"}, {"a", ""}, {"a", "b"}, {"a", "aa"}, {"a", "A"}, {"a*a", "a"}, {"ab*ba", "aba"}, {"a*b*c", "acb"}, {"a*b", "abc"}, {"*a", "ab"}, {"a*", "ba"}, {"*ab*ab*", "abxa"}, {"*aa*aa*", "aaa"}, {"?", "a"}, {".", "a"}, {"[a]", "a"}, {"\\*", "*"}, {"m.*", "m"}, {"m.room", "m.room "}} {
		glob(t, l[0], l[1], false)
	}
}

// cuts: can s be cut into pieces, byte of the pattern by byte?
func cuts(pattern, s string) bool {
	switch {
	case pattern == "":
		return s == ""
	case pattern[0] != '*':
		return s != "" && s[0] == pattern[0] && cuts(pattern[1:], s[1:])
	}
	for at := range len(s) + 1 {
		if cuts(pattern[1:], s[at:]) {
			return true
		}
	}
	return false
}

// each hands on all texts of at most so many of these signs.
func each(signs string, most int, look func(s string)) {
	var onward func(s string, more int)
	onward = func(s string, more int) {
		look(s)
		for i := 0; i < len(signs) && more > 0; i++ {
			onward(s+signs[i:i+1], more-1)
		}
	}
	onward("", most)
}

func TestP52_1AllShortTexts(t *testing.T) {
	each("*ab", 5, func(pattern string) {
		as := regexp.MustCompile("^(?s:" + strings.ReplaceAll(pattern, "*", ".*") + ")$")
		each("ab", 6, func(s string) {
			glob(t, pattern, s, cuts(pattern, s))
			if cuts(pattern, s) != as.MatchString(s) {
				t.Fatal(pattern, s)
			}
		})
	})
	each("*ab", 4, func(pattern string) {
		each("*ab", 4, func(s string) { glob(t, pattern, s, cuts(pattern, s)) })
	})
}

func TestP52_1LongTexts(t *testing.T) {
	long := strings.Repeat("a", 100000)
	glob(t, strings.Repeat("a*", 1000), long, true)
	glob(t, strings.Repeat("a*", 1000)+"b", long, false)
	glob(t, strings.Repeat("*a", 1000)+"*b*", long, false)
	glob(t, strings.Repeat("*", 100000), long, true)
	glob(t, long, long, true)
	glob(t, long+"a", long, false)
}

func event(kind, sender string) node {
	return tree.Map(tree.Text("type"), tree.Text(kind), tree.Text("sender"), tree.Text(sender), tree.Text("content"), tree.Map(tree.Text("a"), tree.Null(), tree.Text("b"), tree.Int(1)))
}

func passes(t *testing.T, f filter, e node, want bool) {
	t.Helper()
	if got := match.Passes(f, e); got != want {
		t.Errorf("%+v, %+v: %v", f, e, got)
	}
	picked := match.Pick(f, e)
	if want && (len(picked) != 1 || !tree.Exact(picked[0], e)) || !want && len(picked) != 0 {
		t.Errorf("%+v, %+v: %+v", f, e, picked)
	}
}

func of(l ...string) []string { return l }

func TestP52_2TypesAndSenders(t *testing.T) {
	e := event("m.room.member", "@a:b.c")
	byType := func(some, none []string) filter { return filter{Types: some, NotTypes: none} }
	bySender := func(some, none []string) filter { return filter{Senders: some, NotSenders: none} }
	for _, l := range []struct {
		make  func(some, none []string) filter
		it    string
		other string
	}{{byType, "m.room.member", "@a:b.c"}, {bySender, "@a:b.c", "m.room.member"}} {
		begin, end := l.it[:3]+"*", "*"+l.it[3:]
		for _, some := range [][]string{nil, {}, of(l.it), of("*"), of(begin), of(end), of("x", l.it), of(l.it, "x"), of("", begin, "x*")} {
			passes(t, l.make(some, nil), e, true)
			passes(t, l.make(some, of("", "x", l.other, l.it+"*x", l.it+"x")), e, true)
			for _, none := range [][]string{of(l.it), of("*"), of(begin), of("x", end), of(l.it, "x")} {
				passes(t, l.make(some, none), e, false)
			}
		}
		for _, some := range [][]string{of(""), of("x"), of(l.other), of("x", l.it+"x", l.it[1:])} {
			passes(t, l.make(some, nil), e, false)
			passes(t, l.make(some, of("x")), e, false)
		}
	}
	passes(t, filter{Types: of("m.*"), Senders: of("@a:*"), NotTypes: of("x"), NotSenders: of("y"), Keys: of("a")}, e, true)
	passes(t, filter{Types: of("m.*"), Senders: of("@b:*")}, e, false)
	passes(t, filter{Types: of("x.*"), Senders: of("@a:*")}, e, false)
	passes(t, filter{Types: of("m.*"), NotSenders: of("@a:*")}, e, false)
}

func TestP52_2WithoutTypeOrSender(t *testing.T) {
	for _, e := range []node{tree.Map(), tree.Null(), {}, tree.List(tree.Text("type")), tree.Text("type"), tree.Map(tree.Text("type"), tree.Int(1), tree.Text("sender"), tree.Null()), event("", ""), {Kind: api.Map, K: of("type")}, {Kind: api.List, K: of("type"), L: []node{tree.Text("x")}}} {
		for _, f := range []filter{{}, {Types: of("")}, {Types: of("*")}, {Types: of("x", "**")}, {Senders: of("")}, {Senders: of("*")}, {NotTypes: of("x")}, {NotSenders: of("x")}} {
			passes(t, f, e, true)
		}
		for _, f := range []filter{{Types: of("x")}, {Types: of("1")}, {NotTypes: of("")}, {NotTypes: of("*")}, {Senders: of("x*")}, {NotSenders: of("x", "")}, {NotSenders: of("*")}} {
			passes(t, f, e, false)
		}
	}
	twice := node{Kind: api.Map, K: of("type", "type"), L: []node{tree.Text("a"), tree.Text("b")}}
	passes(t, filter{Types: of("a")}, twice, true)
	passes(t, filter{Types: of("b")}, twice, false)
}

func TestP52_2Keys(t *testing.T) {
	e := event("x", "y")
	for _, keys := range [][]string{nil, {}, of("a"), of("b"), of("a", "b"), of("b", "a", "b")} {
		passes(t, filter{Keys: keys}, e, true)
	}
	for _, keys := range [][]string{of(""), of("c"), of("a", "c"), of("c", "a"), of("*"), of("A"), of("content")} {
		passes(t, filter{Keys: keys}, e, false)
	}
	for _, v := range []node{tree.Null(), tree.Text("a"), tree.List(tree.Text("a")), tree.Map(), {Kind: api.List, K: of("a"), L: []node{tree.Null()}}, {Kind: api.Map, K: of("a")}} {
		passes(t, filter{Keys: of("a")}, tree.Put(e, "content", v), false)
		passes(t, filter{}, tree.Put(e, "content", v), true)
	}
	for _, e := range []node{tree.Without(e, "content"), tree.Null(), {}, tree.Map(tree.Text("a"), tree.Null())} {
		passes(t, filter{Keys: of("a")}, e, false)
		passes(t, filter{}, e, true)
	}
	passes(t, filter{Keys: of("a")}, tree.Map(tree.Text("content"), tree.Map(tree.Text("a"), node{})), true)
}

func TestP52_2Pick(t *testing.T) {
	kinds := of("a", "b", "a", "c", "a", "b")
	var l []node
	for i, kind := range kinds {
		l = append(l, tree.Put(event(kind, "s"), "n", tree.Int(int64(i))))
	}
	picks := func(f filter, want ...int64) {
		t.Helper()
		var got []int64
		for _, e := range match.Pick(f, l...) {
			n, _ := tree.Get(e, "n")
			got = append(got, n.N)
		}
		if !slices.Equal(got, want) {
			t.Errorf("%+v: %d, not %d", f, got, want)
		}
	}
	picks(filter{}, 0, 1, 2, 3, 4, 5)
	picks(filter{Types: of("a")}, 0, 2, 4)
	picks(filter{NotTypes: of("a")}, 1, 3, 5)
	picks(filter{Types: of("x")})
	for _, limit := range []int{0, -1, math.MinInt, 3, 4, math.MaxInt} {
		picks(filter{Types: of("a"), Limit: limit}, 0, 2, 4)
	}
	picks(filter{Types: of("a"), Limit: 1}, 0)
	picks(filter{Types: of("a"), Limit: 2}, 0, 2)
	picks(filter{NotTypes: of("a"), Limit: 2}, 1, 3)
	picks(filter{Limit: 1}, 0)
	if got := match.Pick(filter{Limit: 2}); len(got) != 0 {
		t.Error(got)
	}
	if e := l[0]; !match.Passes(filter{Limit: -3}, e) || !match.Passes(filter{Limit: 1}, e) {
		t.Error("Limit")
	}
}

func TestP52_2WhatIsHandedInIsNotChanged(t *testing.T) {
	l := []node{event("a", "s"), event("b", "s"), event("a", "t")}
	f := filter{Types: of("a", "b*"), Keys: of("a")}
	match.Pick(f, l[:2]...)
	match.Passes(f, l[0])
	if !tree.Exact(tree.List(l...), tree.List(event("a", "s"), event("b", "s"), event("a", "t"))) || !slices.Equal(f.Types, of("a", "b*")) || !slices.Equal(f.Keys, of("a")) {
		t.Error(l, f)
	}
}

func TestP52_3WhatFollows(t *testing.T) {
	r := rand.New(rand.NewSource(52))
	text := func(signs string) string {
		var b strings.Builder
		for range r.Intn(5) {
			b.WriteByte(signs[r.Intn(len(signs))])
		}
		return b.String()
	}
	texts := func() []string {
		var l []string
		for range r.Intn(3) {
			l = append(l, text("ab*"))
		}
		return l
	}
	for range 3000 {
		pattern, s := text("ab\xff"), text("ab\xff*")
		glob(t, pattern, pattern, true)
		glob(t, pattern, s, pattern == s)
		glob(t, "*", s, true)
		f := filter{Types: texts(), NotTypes: texts(), Senders: texts(), NotSenders: texts(), Limit: r.Intn(4) - 1}
		var l []node
		for range r.Intn(6) {
			l = append(l, event(text("ab"), text("ab")))
		}
		once := match.Pick(f, l...)
		again := match.Pick(f, once...)
		if !slices.EqualFunc(once, again, tree.Exact) {
			t.Errorf("%+v: %+v, then %+v", f, once, again)
		}
	}
}
