package auth_test

import (
	"math"
	"math/rand"
	"slices"
	"strconv"
	"strings"
	"testing"

	"sealring/api"
	"sealring/auth"
	"sealring/eventid"
	"sealring/parse"
	"sealring/tree"
)

type node = api.Node

var noVersions = []int{0, -1, 12, 13, 100, math.MinInt, math.MaxInt}

func mapOf(keys []string, values ...node) node { return node{Kind: api.Map, K: keys, L: values} }

func names(l ...string) []string { return l }

func isOwn(v int) bool { return v <= 2 }

func read(s string) node {
	n, _, e := parse.Parse(s)
	if e != api.OK {
		panic(s)
	}
	return n
}

// plain is an event without a state_key; an empty content is none.
func plain(kind, sender, content string) node {
	n := tree.Map(tree.Text("type"), tree.Text(kind), tree.Text("sender"), tree.Text(sender))
	if content == "" {
		return n
	}
	return tree.Put(n, "content", read(content))
}

// says is a state event.
func says(kind, key, sender, content string) node {
	return tree.Put(plain(kind, sender, content), "state_key", tree.Text(key))
}

// member is an event that gives a membership.
func member(sender, target, membership string) node {
	return says("m.room.member", target, sender, `{"membership":`+strconv.Quote(membership)+`}`)
}

// The users whom the rooms here know. The maker is the one who made the room.
const (
	maker  = "@maker:a"
	joined = "@joined:a"
	called = "@called:b"
	left   = "@left:b"
	banned = "@banned:c"
	nobody = "@nobody:d"
)

func users() []string { return names(maker, joined, called, left, banned, nobody) }

func create() node { return says("m.room.create", "", maker, "{}") }

// crowd is a room in which there is one of each membership.
func crowd(more ...node) []node {
	l := []node{create(), member(maker, maker, "join"), member(joined, joined, "join"), member(joined, called, "invite"), member(left, left, "leave"), member(maker, banned, "ban")}
	return append(l, more...)
}

// levels is what the room says of power.
func levels(content string) node { return says("m.room.power_levels", "", maker, content) }

// rules is what it says of who may come in.
func rules(rule string) node {
	return says("m.room.join_rules", "", maker, `{"join_rule":`+strconv.Quote(rule)+`}`)
}

// prevOf is a List that names events, as a version names them.
func prevOf(v int, ids ...string) node {
	l := tree.List()
	for _, id := range ids {
		n := tree.Text(id)
		if isOwn(v) {
			n = tree.List(n, tree.Map(tree.Text("sha256"), tree.Text(strings.Repeat("A", 43))))
		}
		l.L = append(l.L, n)
	}
	return l
}

// chained are events each of which names the one ahead, so that their order is that in which they stand here.
func chained(t *testing.T, v int, l ...node) []node {
	t.Helper()
	var out []node
	var prev []string
	for i, n := range l {
		n = tree.Put(n, "prev_events", prevOf(v, prev...))
		if isOwn(v) {
			n = tree.Put(n, "event_id", tree.Text("$"+strconv.Itoa(i)+":x"))
		}
		id, e := eventid.Of(v, n)
		if e != api.OK {
			t.Fatal(v, e)
		}
		out, prev = append(out, n), names(id)
	}
	return out
}

// shown is an event as it matters here.
func shown(n node) []node {
	var l []node
	for _, key := range names("type", "sender", "state_key", "content") {
		v, _ := tree.Get(n, key)
		l = append(l, v)
	}
	return l
}

func checks(t *testing.T, e node, want api.Errno, l ...node) {
	t.Helper()
	checksIn(t, 1, e, want, l...)
}

// checksIn asks whether what those events leave, one behind the other, allows another one.
func checksIn(t *testing.T, v int, e node, want api.Errno, l ...node) {
	t.Helper()
	if got := auth.Check(v, e, chained(t, v, l...)...); got != want {
		t.Errorf("Check(%d, %+v) by %d: %d, not %d", v, shown(e), len(l), got, want)
	}
}

func is(t *testing.T, user, want string, l ...node) {
	t.Helper()
	if got, e := auth.Member(1, user, chained(t, 1, l...)...); got != want || e != api.OK {
		t.Errorf("Member(%q): %q, %d, not %q", user, got, e, want)
	}
}

// allowed asks for just those senders and targets, a sender and a target by turns, of all that the room knows, whom it allows a membership.
func allowed(t *testing.T, membership string, room []node, pairs ...string) {
	t.Helper()
	l := chained(t, 1, room...)
	for _, sender := range users() {
		for _, target := range users() {
			want := api.ErrArg
			for i := 0; i < len(pairs); i += 2 {
				if pairs[i] == sender && pairs[i+1] == target {
					want = api.OK
				}
			}
			if got := auth.Check(1, member(sender, target, membership), l...); got != want {
				t.Errorf("%s of %s by %s: %d, not %d", membership, target, sender, got, want)
			}
		}
	}
}

func TestP58_1Member(t *testing.T) {
	for user, want := range map[string]string{maker: "join", joined: "join", called: "invite", left: "leave", banned: "ban", nobody: "leave", "": "leave", "@Maker:a": "leave"} {
		is(t, user, want, crowd()...)
	}
	is(t, maker, "leave")
	is(t, maker, "leave", create())
	is(t, "", "knock", member("", "", "knock"))
	is(t, nobody, "", member(maker, nobody, ""))
	is(t, nobody, "\u00e9", member(maker, nobody, "\u00e9"))
	// The last one counts.
	is(t, nobody, "ban", member(maker, nobody, "join"), member(maker, nobody, "ban"))
	is(t, nobody, "leave", member(maker, nobody, "join"), member(maker, nobody, "leave"), member(maker, left, "ban"))
	is(t, nobody, "leave", member(maker, nobody, "join"), says("m.room.member", nobody, maker, "{}"))
}

func TestP58_1WhatGivesNoMembership(t *testing.T) {
	for _, content := range names("", "{}", "null", `"join"`, `["join"]`, `["membership","join"]`, `{"membership":null}`, `{"membership":1}`, `{"membership":["join"]}`, `{"membership":{"membership":"join"}}`, `{"Membership":"join"}`) {
		is(t, nobody, "leave", says("m.room.member", nobody, maker, content))
	}
	join := member(maker, nobody, "join")
	for _, n := range []node{
		tree.Without(join, "state_key"), tree.Put(join, "state_key", tree.Int(1)), tree.Put(join, "state_key", tree.Text(nobody+" ")), tree.Put(join, "type", tree.Text("m.room.Member")), tree.Without(join, "type"),
		tree.Put(tree.Without(join, "content"), "membership", tree.Text("join")),
	} {
		is(t, nobody, "leave", n)
	}
	is(t, nobody, "leave", tree.Put(join, "content", mapOf(names("membership"))))
	is(t, nobody, "leave", tree.Put(join, "content", mapOf(names("membership", "membership"), tree.Int(1), tree.Text("join"))))
	is(t, nobody, "join", tree.Put(join, "content", mapOf(names("membership", "membership"), tree.Text("join"), tree.Int(1))))
	is(t, nobody, "join", tree.Without(join, "sender"))
}

// bad are lists of which there is no state, by the error.
func bad(v int) map[api.Errno][][]node {
	n := tree.Put(create(), "prev_events", prevOf(v))
	if isOwn(v) {
		n = tree.Put(n, "event_id", tree.Text("$a:x"))
	}
	l := map[api.Errno][][]node{
		api.ErrTwice: {{n, n}, {n, n, tree.Null()}},
		api.ErrField: {{tree.Without(n, "prev_events")}, {n, tree.Without(tree.Put(tree.Put(n, "depth", tree.Int(2)), "event_id", tree.Text("$b:x")), "prev_events")}},
		api.ErrType:  {{tree.Put(n, "prev_events", tree.Null())}, {tree.Put(n, "prev_events", tree.List(tree.Int(1)))}},
		api.ErrID:    {{tree.Put(n, "prev_events", prevOf(v, "a"))}},
	}
	if isOwn(v) {
		l[api.ErrField] = append(l[api.ErrField], []node{{}}, []node{n, tree.Null()})
	} else {
		l[api.ErrField] = l[api.ErrField][:1]
		l[api.ErrKind] = [][]node{{{}}, {n, {}}}
		l[api.ErrText] = [][]node{{tree.Put(n, "state_key", tree.Text("\xff"))}}
	}
	return l
}

func TestP58_1StateIsToldFirst(t *testing.T) {
	events := []node{{}, tree.Null(), tree.Map(), plain("x", maker, ""), create(), member(maker, maker, "join"), tree.Without(member(maker, maker, "join"), "state_key")}
	refuses := func(v int, want api.Errno, l ...node) {
		t.Helper()
		for _, user := range names(maker, "") {
			if is, e := auth.Member(v, user, l...); is != "" || e != want {
				t.Errorf("Member(%d) of %+v: %q, %d, not %d", v, l, is, e, want)
			}
		}
		for _, e := range events {
			if got := auth.Check(v, e, l...); got != want {
				t.Errorf("Check(%d, %+v) of %+v: %d, not %d", v, e, l, got, want)
			}
		}
	}
	for v := 1; v <= 11; v++ {
		for want, lists := range bad(v) {
			for _, l := range lists {
				refuses(v, want, l...)
			}
		}
	}
	for _, v := range noVersions {
		refuses(v, api.ErrVersion, chained(t, 1, create())...)
		refuses(v, api.ErrVersion, node{})
		// Of no events there is a state whatever the version.
		if is, e := auth.Member(v, maker); is != "leave" || e != api.OK {
			t.Error(v, is, e)
		}
		checksNothing(t, v)
	}
	checksNothing(t, 3)
}

// checksNothing asks what a room without events allows.
func checksNothing(t *testing.T, v int) {
	t.Helper()
	for want, l := range map[api.Errno][]node{
		api.OK:       {create(), plain("m.room.create", "", "")},
		api.ErrField: {{}, tree.Map(), tree.Without(create(), "sender"), tree.Without(create(), "type")},
		api.ErrNone:  {plain("x", maker, ""), member(maker, maker, "join"), plain("m.room.member", maker, "")},
	} {
		for _, e := range l {
			if got := auth.Check(v, e); got != want {
				t.Errorf("Check(%d, %+v): %d, not %d", v, e, got, want)
			}
		}
	}
}

func TestP58_2TypeAndSender(t *testing.T) {
	for _, room := range [][]node{nil, {create()}, crowd()} {
		for _, e := range []node{plain("x", maker, "{}"), create(), member(maker, maker, "join")} {
			for _, key := range names("type", "sender") {
				checks(t, tree.Without(e, key), api.ErrField, room...)
				for _, n := range []node{{}, tree.Null(), tree.Int(1), tree.List(tree.Text(maker)), tree.Map(), {Kind: 7, S: maker}} {
					checks(t, tree.Put(e, key, n), api.ErrField, room...)
				}
				checks(t, mapOf(append(names(key), e.K...), append([]node{tree.Null()}, e.L...)...), api.ErrField, room...)
			}
		}
		for _, e := range []node{{}, tree.Null(), tree.Bool(true), tree.Int(1), tree.Text("m.room.create"), tree.List(create()), tree.Map(), mapOf(names("sender", "type"), tree.Text(maker)), {Kind: api.List, K: create().K, L: create().L}} {
			checks(t, e, api.ErrField, room...)
		}
	}
}

func TestP58_2Create(t *testing.T) {
	creates := []node{create(), plain("m.room.create", nobody, ""), says("m.room.create", "x", "", "null"), tree.Put(create(), "state_key", tree.Int(1))}
	for _, e := range creates {
		checks(t, e, api.OK)
		checks(t, e, api.ErrTwice, create())
		checks(t, e, api.ErrTwice, crowd()...)
		checks(t, e, api.ErrTwice, says("m.room.create", "", "", ""))
		// What is no such state event of an empty key counts for nothing.
		for _, other := range creates[1:] {
			checks(t, e, api.OK, other)
		}
		checks(t, e, api.OK, crowd()[1:]...)
		checks(t, e, api.OK, says("m.room.creat", "", maker, ""), says("", "", maker, ""))
	}
}

func TestP58_2WithoutCreate(t *testing.T) {
	for _, e := range []node{
		plain("x", maker, ""), plain("", "", ""), says("x", "", maker, "{}"), levels("{}"), rules("public"), member(maker, maker, "join"), member(maker, nobody, "x"), plain("m.room.member", maker, ""), says("m.room.member", maker, maker, ""), plain("m.room.Create", maker, ""),
	} {
		for _, room := range [][]node{nil, crowd()[1:], {plain("m.room.create", maker, "{}")}, {says("m.room.create", "x", maker, "{}"), rules("public"), member(maker, maker, "join")}} {
			checks(t, e, api.ErrNone, room...)
		}
	}
}

func TestP58_2WhatAMemberEventMustHave(t *testing.T) {
	for _, room := range [][]node{{create()}, crowd(), crowd(rules("public"))} {
		for _, e := range []node{member(maker, maker, "join"), member(nobody, banned, "x")} {
			checks(t, tree.Without(e, "state_key"), api.ErrField, room...)
			checks(t, tree.Without(e, "content"), api.ErrField, room...)
			checks(t, tree.Put(e, "membership", tree.Text("join")), checked(t, e, room...), room...)
			for _, n := range []node{{}, tree.Null(), tree.Int(1), tree.List(tree.Text(maker)), tree.Map(), {Kind: 7, S: maker}} {
				checks(t, tree.Put(e, "state_key", n), api.ErrField, room...)
				checks(t, tree.Put(e, "content", n), api.ErrField, room...)
				checks(t, tree.Put(e, "content", tree.Map(tree.Text("membership"), n)), api.ErrField, room...)
			}
			for _, content := range []node{tree.Text("join"), mapOf(names("membership")), {Kind: api.List, K: names("membership"), L: []node{tree.Text("join")}}, mapOf(names("membership", "membership"), tree.Int(1), tree.Text("join"))} {
				checks(t, tree.Put(e, "content", content), api.ErrField, room...)
				checks(t, tree.Put(tree.Put(e, "content", content), "membership", tree.Text("join")), api.ErrField, room...)
			}
		}
	}
}

func checked(t *testing.T, e node, l ...node) api.Errno {
	t.Helper()
	return auth.Check(1, e, chained(t, 1, l...)...)
}

func TestP58_2Join(t *testing.T) {
	in := names(maker, maker, joined, joined, called, called)
	allowed(t, "join", crowd(), in...)
	allowed(t, "join", crowd(rules("public")), append(in, left, left, nobody, nobody)...)
	for _, rule := range names("", "invite", "private", "Public", "public ", "join") {
		allowed(t, "join", crowd(rules(rule)), in...)
	}
	for _, other := range []node{
		says("m.room.join_rules", "x", maker, `{"join_rule":"public"}`), plain("m.room.join_rules", maker, `{"join_rule":"public"}`), says("m.room.join_rule", "", maker, `{"join_rule":"public"}`), says("m.room.join_rules", "", maker, ""),
		says("m.room.join_rules", "", maker, `["public"]`), says("m.room.join_rules", "", maker, `{"join_rule":["public"]}`), says("m.room.join_rules", "", maker, `{"join_rules":"public"}`), tree.Put(says("m.room.join_rules", "", maker, "{}"), "join_rule", tree.Text("public")),
		says("m.room.join_rules", "", maker, `{"join_rule":1}`), levels(`{"users_default":1000}`),
	} {
		allowed(t, "join", crowd(other), in...)
		allowed(t, "join", crowd(rules("public"), rules("invite"), other), in...)
	}
	// The last rule counts, and the last membership.
	allowed(t, "join", crowd(rules("invite"), rules("public")), append(in, left, left, nobody, nobody)...)
	allowed(t, "join", crowd(rules("public"), member(maker, called, "ban"), member(maker, banned, "leave")), maker, maker, joined, joined, banned, banned, left, left, nobody, nobody)
	allowed(t, "join", crowd(member(maker, called, "leave"), member(maker, banned, "invite")), maker, maker, joined, joined, banned, banned)
	// Another membership than those that there are is as good as none.
	allowed(t, "join", crowd(member(joined, joined, "knock"), member(called, called, "")), maker, maker)
	allowed(t, "join", crowd(member(joined, joined, "knock"), member(called, called, ""), rules("public")), maker, maker, joined, joined, called, called, left, left, nobody, nobody)
}

func TestP58_2JoinOfANewRoom(t *testing.T) {
	allowed(t, "join", []node{create()}, maker, maker)
	// What is no state event is nothing that the state has.
	allowed(t, "join", []node{create(), plain("x", nobody, "{}"), plain("m.room.member", nobody, `{"membership":"join"}`)}, maker, maker)
	allowed(t, "join", []node{create(), says("m.room.create", "", nobody, "{}")}, nobody, nobody)
	for _, more := range []node{says("x", "", maker, "{}"), member(nobody, nobody, "leave"), member(maker, maker, "leave"), says("m.room.create", "x", maker, ""), levels(`{"users":{"` + maker + `":100}}`), rules("invite")} {
		allowed(t, "join", []node{create(), more})
	}
	allowed(t, "join", []node{create(), member(maker, maker, "ban")})
	allowed(t, "join", []node{create(), rules("public")}, maker, maker, joined, joined, called, called, left, left, banned, banned, nobody, nobody)
	// Who made a room is told by the sender of what made it, a Text.
	for _, n := range []node{tree.Without(create(), "sender"), tree.Put(create(), "sender", tree.Int(1)), tree.Put(create(), "sender", tree.List(tree.Text(maker)))} {
		for _, user := range names("", maker) {
			checks(t, member(user, user, "join"), api.ErrArg, n)
		}
	}
	allowed(t, "join", []node{tree.Put(create(), "content", read(`{"creator":"`+nobody+`"}`))}, maker, maker)
	checks(t, member("", "", "join"), api.OK, says("m.room.create", "", "", "{}"))
	checks(t, member(maker, maker, "join"), api.ErrArg, says("m.room.create", "", "", "{}"))
}

// of are all pairs of these senders with these targets.
func of(senders, targets []string) []string {
	var l []string
	for _, sender := range senders {
		for _, target := range targets {
			l = append(l, sender, target)
		}
	}
	return l
}

func TestP58_2Invite(t *testing.T) {
	out := names(called, left, nobody)
	allowed(t, "invite", crowd(), of(names(maker, joined), out)...)
	allowed(t, "invite", crowd(levels(`{"invite":0}`)), of(names(maker, joined), out)...)
	allowed(t, "invite", crowd(levels(`{"invite":1}`)))
	allowed(t, "invite", crowd(levels(`{"invite":-1,"users_default":-1}`)), of(names(maker, joined), out)...)
	allowed(t, "invite", crowd(levels(`{"users_default":-1}`)))
	allowed(t, "invite", crowd(levels(`{"invite":5,"users":{"`+joined+`":5,"`+maker+`":4,"`+called+`":100,"`+left+`":9}}`)), of(names(joined), out)...)
	allowed(t, "invite", crowd(levels(`{"invite":5,"users_default":5,"users":{"`+joined+`":4}}`)), of(names(maker), out)...)
	allowed(t, "invite", crowd(levels(`{"ban":9,"kick":9,"redact":9,"state_default":9,"events_default":9,"events":{"m.room.member":9}}`)), of(names(maker, joined), out)...)
	allowed(t, "invite", crowd(member(joined, joined, "leave"), member(left, left, "join")), of(names(maker, left), names(joined, called, nobody))...)
	allowed(t, "invite", []node{create()})
	allowed(t, "invite", crowd()[:2], of(names(maker), names(joined, called, left, banned, nobody))...)
}

func TestP58_2Leave(t *testing.T) {
	self := names(maker, maker, joined, joined, called, called)
	// Who made a room that says nothing of power has 100, and so may put all others out.
	allowed(t, "leave", crowd(), append(of(names(maker), names(joined, called, left, banned, nobody)), self...)...)
	users := func(more string) node {
		return levels(`{` + more + `"users":{"` + joined + `":60,"` + maker + `":50,"` + left + `":60,"` + nobody + `":59,"` + banned + `":1,"` + called + `":49}}`)
	}
	allowed(t, "leave", crowd(users("")), append(of(names(joined), names(maker, called, nobody, banned)), append(self, maker, called, maker, banned)...)...)
	allowed(t, "leave", crowd(users(`"kick":50,"ban":60,`)), append(of(names(joined), names(maker, called, nobody, banned)), append(self, maker, called)...)...)
	allowed(t, "leave", crowd(users(`"kick":60,"ban":0,`)), append(of(names(joined), names(maker, called, nobody, banned)), self...)...)
	allowed(t, "leave", crowd(users(`"kick":60,"ban":61,`)), append(of(names(joined), names(maker, called, nobody)), self...)...)
	allowed(t, "leave", crowd(users(`"kick":61,"ban":-9,"invite":-9,`)), self...)
	allowed(t, "leave", crowd(users(`"kick":51,`)), append(of(names(joined), names(maker, called, nobody, banned)), self...)...)
	// Who is as strong as another one, or isn't here, puts nobody out.
	allowed(t, "leave", crowd(levels(`{"users_default":100}`)), self...)
	allowed(t, "leave", crowd(levels(`{"users":{"`+called+`":100,"`+left+`":100,"`+banned+`":100,"`+nobody+`":100}}`)), self...)
	allowed(t, "leave", crowd(levels(`{"kick":-5,"ban":-5,"users":{"`+banned+`":-5,"`+nobody+`":-1}}`)), append(of(names(maker, joined), names(nobody, banned)), self...)...)
	allowed(t, "leave", crowd(levels(`{"state_default":101,"events_default":101,"redact":101,"invite":101,"events":{"m.room.member":101},"users":{"`+maker+`":50}}`)), append(of(names(maker), names(joined, called, left, banned, nobody)), self...)...)
	// Who is there by another membership than those that there are can't go by itself.
	allowed(t, "leave", crowd(member(joined, joined, "knock"), levels("{}")), maker, maker, called, called)
	allowed(t, "leave", []node{create()})
}

func TestP58_2Ban(t *testing.T) {
	all := names(joined, called, left, banned, nobody)
	allowed(t, "ban", crowd(), of(names(maker), all)...)
	users := func(more string) node {
		return levels(`{` + more + `"users":{"` + joined + `":60,"` + maker + `":50,"` + left + `":60,"` + nobody + `":59,"` + banned + `":1,"` + called + `":50}}`)
	}
	allowed(t, "ban", crowd(users("")), append(of(names(joined), names(maker, called, nobody, banned)), maker, banned)...)
	allowed(t, "ban", crowd(users(`"ban":51,`)), of(names(joined), names(maker, called, nobody, banned))...)
	allowed(t, "ban", crowd(users(`"ban":60,"kick":61,`)), of(names(joined), names(maker, called, nobody, banned))...)
	allowed(t, "ban", crowd(users(`"ban":61,"kick":0,"invite":0,`)))
	allowed(t, "ban", crowd(users(`"ban":0,"kick":99,"redact":99,"state_default":99,"events":{"m.room.member":99},`)), append(of(names(joined), names(maker, called, nobody, banned)), maker, banned)...)
	allowed(t, "ban", crowd(levels(`{"users_default":100}`)))
	allowed(t, "ban", crowd(levels(`{"users":{"`+called+`":100,"`+left+`":100,"`+banned+`":100,"`+nobody+`":100}}`)))
	allowed(t, "ban", []node{create()})
	allowed(t, "ban", crowd()[:2], of(names(maker), all)...)
}

func TestP58_2OtherMemberships(t *testing.T) {
	for _, membership := range names("", "knock", "Join", "joins", "restricted", "\u00e9", " join") {
		allowed(t, membership, crowd())
		allowed(t, membership, []node{create()})
		allowed(t, membership, crowd(rules("public"), levels(`{"users_default":100,"ban":0,"kick":0,"state_default":0}`)))
	}
}

// may asks who may send an event of a type, as a state event and as another one.
func may(t *testing.T, kind string, room []node, asState, asOther []string) {
	t.Helper()
	l := chained(t, 1, room...)
	for _, sender := range append(users(), "") {
		asks := func(e node, who []string) {
			t.Helper()
			want := api.ErrArg
			if slices.Contains(who, sender) {
				want = api.OK
			}
			if got := auth.Check(1, e, l...); got != want {
				t.Errorf("%+v: %d, not %d", shown(e), got, want)
			}
		}
		for _, key := range names("", "x", sender) {
			asks(says(kind, key, sender, ""), asState)
			asks(says(kind, key, sender, `{"membership":"join"}`), asState)
		}
		asks(plain(kind, sender, "{}"), asOther)
		asks(tree.Put(plain(kind, sender, ""), "state_key", tree.Null()), asOther)
		asks(tree.Put(plain(kind, sender, ""), "state_key", tree.Map()), asOther)
	}
}

func TestP58_2OtherTypes(t *testing.T) {
	none, both := names(), names(maker, joined)
	for _, kind := range names("x", "", "m.room.message", "m.room.power_levels", "m.room.join_rules", "m.room.members", "M.room.create") {
		may(t, kind, crowd(), names(maker), both)
		may(t, kind, []node{create()}, none, none)
		may(t, kind, crowd()[:2], names(maker), names(maker))
		may(t, kind, crowd(member(maker, maker, "leave"), rules("public")), none, names(joined))
		may(t, kind, crowd(levels("{}")), none, both)
		may(t, kind, crowd(levels(`{"state_default":0,"events_default":1}`)), both, none)
		may(t, kind, crowd(levels(`{"users_default":-1}`)), none, none)
		may(t, kind, crowd(levels(`{"users":{"`+joined+`":50,"`+left+`":100}}`)), names(joined), both)
		may(t, kind, crowd(levels(`{"users":{"`+joined+`":49,"`+maker+`":51},"events_default":50}`)), names(maker), names(maker))
		may(t, kind, crowd(levels(`{"events":{"`+kind+`":7},"users":{"`+joined+`":7,"`+maker+`":6}}`)), names(joined), names(joined))
		may(t, kind, crowd(levels(`{"events":{"`+kind+`":0,"y":9},"events_default":9}`)), both, both)
		may(t, kind, crowd(levels(`{"events":{"y":0},"events_default":9}`)), none, none)
		may(t, kind, crowd(levels(`{"ban":-1,"kick":-1,"invite":-1,"redact":-1,"events_default":1}`)), none, none)
	}
}

// A room says of power what stands in the content of one state event; without that one, its maker has 100.
func TestP58_2ThePowers(t *testing.T) {
	none, both := names(), names(maker, joined)
	strong := `{"users":{"` + joined + `":50}}`
	may(t, "x", crowd(levels(strong)), names(joined), both)
	may(t, "x", crowd(levels("{}"), levels(strong)), names(joined), both)
	may(t, "x", crowd(levels(strong), levels("{}")), none, both)
	for _, other := range []node{says("m.room.power_levels", "x", maker, strong), plain("m.room.power_levels", maker, strong), says("m.room.power_level", "", maker, strong)} {
		may(t, "x", crowd(other), names(maker), both)
	}
	for _, empty := range []node{levels(""), levels("null"), levels(`[]`), levels(`{"users":[]}`), levels(`{"users":{"` + maker + `":"100","` + joined + `":null}}`), tree.Put(levels(""), "users", read(`{"`+joined+`":50}`))} {
		may(t, "x", crowd(empty), none, both)
		allowed(t, "ban", crowd(empty))
		allowed(t, "invite", crowd(empty), of(both, names(called, left, nobody))...)
	}
	// The maker is the sender of the last m.room.create of an empty key.
	may(t, "x", crowd(says("m.room.create", "", joined, "")), names(joined), both)
	may(t, "x", crowd(says("m.room.create", "x", joined, "")), names(maker), both)
	may(t, "x", crowd(tree.Put(create(), "sender", tree.Null())), none, both)
	may(t, "x", append(crowd(says("m.room.create", "", "", "")), member("", "", "join")), names(""), append(both, ""))
	may(t, "x", append(crowd(tree.Without(create(), "sender")), member("", "", "join")), none, append(both, ""))
	allowed(t, "ban", crowd(says("m.room.create", "", nobody, ""), levels("{}")))
	allowed(t, "ban", crowd(says("m.room.create", "", banned, "")))
	allowed(t, "ban", crowd(says("m.room.create", "", joined, "")), of(names(joined), names(maker, called, left, banned, nobody))...)
}

// What is in rings, and what else state doesn't count, doesn't count here, either; the graph's order counts, not that in which events come.
func TestP58_2TheStateCounts(t *testing.T) {
	event := func(id string, n node, prev ...string) node {
		return tree.Put(tree.Put(n, "event_id", tree.Text(id)), "prev_events", prevOf(1, prev...))
	}
	join := member(nobody, nobody, "join")
	c, invited, ringed := event("$c:x", create()), event("$i:x", member(maker, nobody, "invite"), "$c:x"), event("$r:x", member(maker, nobody, "ban"), "$r:x", "$i:x")
	out := event("$o:x", member(nobody, nobody, "leave"), "$i:x")
	for want, lists := range map[api.Errno][][]node{
		api.OK:     {{c, invited}, {invited, c}, {ringed, invited, c}},
		api.ErrArg: {{c, invited, out}, {out, invited, c}, {out, ringed, c, invited}, {c, out}},
	} {
		for _, l := range lists {
			if got := auth.Check(1, join, l...); got != want {
				t.Errorf("%+v: %d, not %d", l, got, want)
			}
		}
	}
	if got := auth.Check(1, join, event("$c:x", create(), "$c:x")); got != api.ErrNone {
		t.Error(got)
	}
	if is, e := auth.Member(1, nobody, ringed, out, invited, c); is != "leave" || e != api.OK {
		t.Error(is, e)
	}
}

func TestP58_2EachVersion(t *testing.T) {
	for v := 1; v <= 11; v++ {
		checksIn(t, v, create(), api.OK)
		checksIn(t, v, create(), api.ErrTwice, create())
		checksIn(t, v, member(maker, maker, "join"), api.OK, create())
		checksIn(t, v, plain("x", maker, ""), api.ErrArg, create())
		l := crowd(rules("public"), levels(`{"users":{"`+joined+`":50}}`))
		checksIn(t, v, member(nobody, nobody, "join"), api.OK, l...)
		checksIn(t, v, member(banned, banned, "join"), api.ErrArg, l...)
		checksIn(t, v, member(joined, banned, "leave"), api.OK, l...)
		checksIn(t, v, says("x", "", joined, ""), api.OK, l...)
		checksIn(t, v, says("x", "", maker, ""), api.ErrArg, l...)
		l = chained(t, v, l...)
		slices.Reverse(l)
		for user, want := range map[string]string{maker: "join", called: "invite", banned: "ban", nobody: "leave"} {
			if got, e := auth.Member(v, user, l...); got != want || e != api.OK {
				t.Errorf("%d: %s: %s, %d", v, user, got, e)
			}
		}
	}
}

// However many a room knows, each one counts by itself.
func TestP58_2AGreatRoom(t *testing.T) {
	user := func(i int) string { return "@u" + strconv.Itoa(i) + ":x" }
	is := names("join", "invite", "leave", "ban")
	l := crowd()
	for i := range 120 {
		l = append(l, says("x", user(i), maker, `{"membership":"join","join_rule":"public"}`), member(user(i), user(i), is[i%4]))
	}
	l = chained(t, 1, l...)
	for i := range 120 {
		if got, e := auth.Member(1, user(i), l...); got != is[i%4] || e != api.OK {
			t.Error(i, got, e)
		}
		want := map[bool]api.Errno{true: api.OK, false: api.ErrArg}
		if got := auth.Check(1, member(user(i), user(i), "join"), l...); got != want[i%4 < 2] {
			t.Error(i, got)
		}
		if got := auth.Check(1, plain("x", user(i), ""), l...); got != want[i%4 == 0] {
			t.Error(i, got)
		}
	}
}

// plainRoom is a room, reckoned word by word as the chapter has it.
type plainRoom struct {
	made, maker string // the maker's, if made isn't empty
	members     map[string]string
	levels      map[string]int64 // nil, if the room says nothing of power
	users       map[string]int64
	events      map[string]int64
	rule        string
	entries     int
}

func (r plainRoom) is(user string) string {
	if s, ok := r.members[user]; ok {
		return s
	}
	return "leave"
}

func (r plainRoom) level(name string, unlike int64) int64 {
	if n, ok := r.levels[name]; ok {
		return n
	}
	return unlike
}

func (r plainRoom) power(user string) int64 {
	if r.levels == nil && user == r.maker {
		return 100
	}
	if n, ok := r.users[user]; ok {
		return n
	}
	return r.level("users_default", 0)
}

func (r plainRoom) allows(kind, sender string, key *string, membership string) bool {
	strong := func(name string, unlike int64) bool { return r.power(sender) >= r.level(name, unlike) }
	if kind != "m.room.member" {
		need, ok := r.events[kind]
		if !ok && key != nil {
			need = r.level("state_default", 50)
		} else if !ok {
			need = r.level("events_default", 0)
		}
		return r.is(sender) == "join" && r.power(sender) >= need
	}
	target := *key
	switch membership {
	case "join":
		if sender != target || r.is(target) == "ban" {
			return false
		}
		return r.is(target) == "join" || r.is(target) == "invite" || r.rule == "public" || sender == r.maker && r.entries == 1
	case "invite":
		return r.is(sender) == "join" && r.is(target) != "join" && r.is(target) != "ban" && strong("invite", 0)
	case "leave":
		if sender == target {
			return r.is(target) == "join" || r.is(target) == "invite"
		}
		return r.is(sender) == "join" && strong("kick", 50) && r.power(sender) > r.power(target) && (r.is(target) != "ban" || strong("ban", 50))
	case "ban":
		return r.is(sender) == "join" && strong("ban", 50) && r.power(sender) > r.power(target)
	}
	return false
}

// anyRoom is some room with a maker, and the events that leave it.
func anyRoom(r *rand.Rand) (plainRoom, []node) {
	pick := func(l ...string) string { return l[r.Intn(len(l))] }
	rm := plainRoom{maker: pick(users()[:2]...), members: map[string]string{}, entries: 1}
	l := []node{says("m.room.create", "", rm.maker, "{}")}
	for range r.Intn(8) {
		user, is := pick(users()...), pick("join", "join", "join", "invite", "leave", "ban", "knock")
		if _, ok := rm.members[user]; !ok {
			rm.entries++
		}
		rm.members[user] = is
		l = append(l, member(pick(users()...), user, is))
	}
	if r.Intn(2) == 0 {
		rm.rule = pick("public", "invite")
		rm.entries++
		l = append(l, rules(rm.rule))
	}
	if r.Intn(3) > 0 {
		rm.levels, rm.users, rm.events = anyLevels(r), map[string]int64{}, map[string]int64{}
		content := tree.Map()
		for name, n := range rm.levels {
			content = tree.Put(content, name, tree.Int(n))
		}
		of, ofEvents := tree.Map(), tree.Map()
		for range r.Intn(6) {
			user, n := pick(users()...), int64(r.Intn(4))
			rm.users[user] = n
			of = tree.Put(of, user, tree.Int(n))
		}
		if r.Intn(2) == 0 {
			rm.events["x"] = int64(r.Intn(4))
			ofEvents = tree.Put(ofEvents, "x", tree.Int(rm.events["x"]))
		}
		rm.entries++
		l = append(l, tree.Put(levels("{}"), "content", tree.Put(tree.Put(content, "users", of), "events", ofEvents)))
	}
	return rm, l
}

// anyLevels are some levels, few enough to be the same often.
func anyLevels(r *rand.Rand) map[string]int64 {
	l := map[string]int64{}
	for _, name := range names("ban", "kick", "redact", "invite", "state_default", "events_default", "users_default") {
		if r.Intn(4) > 0 {
			l[name] = int64(r.Intn(4))
		}
	}
	return l
}

func TestP58_2AnyRooms(t *testing.T) {
	r := rand.New(rand.NewSource(582))
	var count [2]int
	for range 400 {
		rm, room := anyRoom(r)
		l := chained(t, 1, room...)
		r.Shuffle(len(l), func(i, j int) { l[i], l[j] = l[j], l[i] })
		asks := func(e node, allows bool) {
			t.Helper()
			want := api.ErrArg
			if allows {
				want = api.OK
				count[0]++
			}
			count[1]++
			if got := auth.Check(1, e, l...); got != want {
				t.Errorf("%+v in %+v: %d, not %d", shown(e), rm, got, want)
			}
		}
		for _, sender := range users() {
			if got, e := auth.Member(1, sender, l...); got != rm.is(sender) || e != api.OK {
				t.Errorf("%s in %+v: %s, %d", sender, rm, got, e)
			}
			key := ""
			for _, kind := range names("x", "y") {
				asks(says(kind, key, sender, "{}"), rm.allows(kind, sender, &key, ""))
				asks(plain(kind, sender, "{}"), rm.allows(kind, sender, nil, ""))
			}
			for _, target := range users() {
				for _, membership := range names("join", "invite", "leave", "ban", "knock") {
					asks(member(sender, target, membership), rm.allows("m.room.member", sender, &target, membership))
				}
			}
		}
	}
	if count[0] < count[1]/20 || count[0] > count[1]/2 {
		t.Error(count)
	}
}

// Who isn't in a room can only come in, or go; who is banned can't come in.
func TestP58_3WhatFollows(t *testing.T) {
	r := rand.New(rand.NewSource(583))
	met := map[string]int{}
	for range 300 {
		_, room := anyRoom(r)
		l := chained(t, 1, room...)
		for _, sender := range users() {
			is, _ := auth.Member(1, sender, l...)
			for _, target := range users() {
				for _, membership := range names("join", "invite", "leave", "ban", "knock", "") {
					ok := auth.Check(1, member(sender, target, membership), l...) == api.OK
					out := is != "join" && (membership != "join" && membership != "leave" || sender != target)
					if ok && (out || is == "ban" && membership == "join") {
						t.Errorf("%s, who is %q, gives %s %q", sender, is, target, membership)
					}
					if ok {
						met[is+" "+membership]++
					}
				}
			}
			if is != "join" && (auth.Check(1, plain("x", sender, ""), l...) == api.OK || auth.Check(1, says("x", "", sender, ""), l...) == api.OK) {
				t.Errorf("%s, who is %q, sends", sender, is)
			}
		}
	}
	for _, way := range names("join join", "join invite", "join leave", "join ban", "invite join", "invite leave", "leave join", "knock join") {
		if met[way] == 0 {
			t.Error(way)
		}
		delete(met, way)
	}
	if len(met) > 0 {
		t.Error(met)
	}
}

func TestP58WhatIsHandedInIsNotChanged(t *testing.T) {
	room := chained(t, 1, crowd(rules("public"), levels(`{"users":{"`+joined+`":50}}`))...)
	l := append(make([]node, 0, 20), room...)
	slices.Reverse(l)
	e := member(nobody, nobody, "join")
	for range 2 {
		if got := auth.Check(1, e, l...); got != api.OK {
			t.Error(got)
		}
		auth.Member(1, nobody, l...)
	}
	slices.Reverse(room)
	if !slices.EqualFunc(l, room, tree.Exact) || !tree.Exact(e, member(nobody, nobody, "join")) {
		t.Errorf("%+v", l)
	}
	for _, n := range l[len(l):cap(l)] {
		if !tree.Exact(n, node{}) {
			t.Errorf("%+v", n)
		}
	}
}

func TestP7EveryCallEnds(t *testing.T) {
	deep := tree.Null()
	for range 100000 {
		deep = tree.List(deep)
	}
	odd := []node{deep, tree.Map(tree.Text("content"), deep), {Kind: api.Map, K: names("type", "sender", "content"), L: []node{tree.Text("x")}}}
	for kind := -1; kind < 9; kind++ {
		for many := range 4 {
			n := node{Kind: kind, N: 1, S: "m.room.create", K: names("event_id", "type", "sender", "state_key")[:many], L: slices.Repeat([]node{{Kind: kind, S: "m.room.create"}}, 4-many)}
			odd = append(odd, n, tree.Put(create(), "prev_events", n), tree.Put(tree.Put(create(), "prev_events", tree.List()), "content", n), tree.Put(member(maker, maker, "join"), "content", n))
		}
	}
	for _, e := range odd {
		for _, v := range []int{1, 3, 11, 0, math.MinInt} {
			auth.Check(v, e, e)
			auth.Check(v, e, append(chained(t, 1, create()), e)...)
			auth.Check(v, create(), e, e)
			auth.Check(v, e)
			auth.Member(v, strings.Repeat("\xff", 1000), e, e)
		}
		for _, v := range []int{1, 3} {
			room := chained(t, v, create(), member(maker, maker, "join"))
			auth.Check(v, e, room...)
		}
		for _, content := range []node{levels("{}"), rules("public"), member(maker, maker, "join")} {
			last := tree.Put(tree.Put(tree.Put(content, "content", e), "event_id", tree.Text("$z:x")), "prev_events", tree.List())
			auth.Check(1, member(maker, joined, "ban"), append(chained(t, 1, create()), last)...)
		}
	}
}
