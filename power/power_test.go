package power_test

import (
	"math"
	"math/rand"
	"testing"

	"sealring/api"
	"sealring/power"
	"sealring/tree"
)

type node = api.Node

type levels = power.Levels

func plain() levels {
	return levels{Ban: 50, Kick: 50, Redact: 50, Invite: 0, State: 50, Events: 0, Users: 0}
}

// contentOf has levels by names, a name and a number by turns.
func contentOf(l ...any) node {
	n := tree.Map()
	for i := 0; i < len(l); i += 2 {
		n = tree.Put(n, l[i].(string), tree.Int(int64(l[i+1].(int))))
	}
	return n
}

var fields = map[string]func(l *levels) *int64{
	"ban":            func(l *levels) *int64 { return &l.Ban },
	"kick":           func(l *levels) *int64 { return &l.Kick },
	"redact":         func(l *levels) *int64 { return &l.Redact },
	"invite":         func(l *levels) *int64 { return &l.Invite },
	"state_default":  func(l *levels) *int64 { return &l.State },
	"events_default": func(l *levels) *int64 { return &l.Events },
	"users_default":  func(l *levels) *int64 { return &l.Users },
}

func is(t *testing.T, content node, want levels) {
	t.Helper()
	if got := power.Of(content); got != want {
		t.Errorf("%+v: %+v, not %+v", content, got, want)
	}
}

// others are what is no Map.
func others() []node {
	return []node{{}, tree.Null(), tree.Bool(true), tree.Int(7), tree.Text("ban"), tree.List(tree.Int(7)), {Kind: api.List, K: []string{"ban", "users_default", "@a:b", "x"}, L: []node{tree.Int(7), tree.Int(7), tree.Int(7), tree.Int(7)}}, {Kind: 9, K: []string{"ban", "@a:b", "x"}, L: []node{tree.Int(7), tree.Int(7), tree.Int(7)}}}
}

func TestP57_1WhatIsTold(t *testing.T) {
	is(t, tree.Map(), plain())
	for _, n := range others() {
		is(t, n, plain())
	}
	is(t, contentOf("Ban", 1, "bans", 2, "state", 3, "events", 4, "users", 5, "", 6), plain())
}

func TestP57_1EachLevel(t *testing.T) {
	for name, field := range fields {
		for _, level := range []int{0, 1, 50, 100, -1, api.MaxInt, -api.MaxInt, math.MaxInt64, math.MinInt64} {
			want := plain()
			*field(&want) = int64(level)
			is(t, contentOf(name, level), want)
			is(t, contentOf("x", 3, name, level, "users", 4), want)
		}
		for _, v := range []node{{}, tree.Null(), tree.Bool(true), tree.Text("7"), tree.List(tree.Int(7)), tree.Map(tree.Text(name), tree.Int(7)), {Kind: api.Bool, N: 7}} {
			is(t, tree.Map(tree.Text(name), v), plain())
		}
		twice := node{Kind: api.Map, K: []string{name, name}, L: []node{tree.Int(3), tree.Int(4)}}
		want := plain()
		*field(&want) = 3
		is(t, twice, want)
		is(t, node{Kind: api.Map, K: []string{name}}, plain())
		twice.L[0] = tree.Text("3") // the first one counts, though it is no Int
		is(t, twice, plain())
	}
	is(t, contentOf("ban", 1, "kick", 2, "redact", 3, "invite", 4, "state_default", 5, "events_default", 6, "users_default", 7), levels{1, 2, 3, 4, 5, 6, 7})
}

func user(t *testing.T, content node, name string, want int64) {
	t.Helper()
	if got := power.User(content, name); got != want {
		t.Errorf("%+v, %q: %d, not %d", content, name, got, want)
	}
}

func TestP57_2User(t *testing.T) {
	users := contentOf("@a:b", 100, "@c:d", -5, "", 3, "@zero:b", 0)
	for _, unlike := range []int64{0, 7, -3} {
		content := tree.Put(contentOf("users_default", int(unlike), "state_default", 9, "events_default", 8), "users", users)
		user(t, content, "@a:b", 100)
		user(t, content, "@c:d", -5)
		user(t, content, "@zero:b", 0)
		user(t, content, "", 3)
		user(t, content, "@A:b", unlike)
		user(t, content, "@a:", unlike)
		user(t, tree.Put(content, "users", tree.Put(users, "@a:b", tree.Text("100"))), "@a:b", unlike)
		for _, n := range others() {
			user(t, tree.Put(content, "users", n), "@a:b", unlike)
		}
		user(t, tree.Without(content, "users"), "@a:b", unlike)
		user(t, tree.Put(tree.Without(content, "users"), "@a:b", tree.Int(100)), "@a:b", unlike)
	}
	for _, n := range others() {
		user(t, n, "@a:b", 0)
		user(t, n, "ban", 0)
	}
	user(t, tree.Map(tree.Text("users"), users), "users_default", 0)
	user(t, tree.Map(tree.Text("users"), contentOf("users_default", 8)), "@x:y", 0)
}

func event(t *testing.T, content node, kind string, state bool, want int64) {
	t.Helper()
	if got := power.Event(content, kind, state); got != want {
		t.Errorf("%+v, %q, %v: %d, not %d", content, kind, state, got, want)
	}
}

func TestP57_2Event(t *testing.T) {
	both := func(content node, kind string, ofState, ofOthers int64) {
		t.Helper()
		event(t, content, kind, true, ofState)
		event(t, content, kind, false, ofOthers)
	}
	events := contentOf("m.room.name", 60, "x", -1, "", 2, "zero", 0)
	for _, content := range []node{tree.Map(), contentOf("state_default", 9, "events_default", 8, "users_default", 7), contentOf("events_default", 99), contentOf("state_default", -1)} {
		l := power.Of(content)
		content = tree.Put(content, "events", events)
		both(content, "m.room.name", 60, 60)
		both(content, "x", -1, -1)
		both(content, "zero", 0, 0)
		both(content, "", 2, 2)
		both(content, "m.room", l.State, l.Events)
		both(content, "X", l.State, l.Events)
		both(tree.Put(content, "events", tree.Put(events, "x", tree.Null())), "x", l.State, l.Events)
		for _, n := range others() {
			both(tree.Put(content, "events", n), "x", l.State, l.Events)
		}
		both(tree.Without(content, "events"), "x", l.State, l.Events)
	}
	for _, n := range others() {
		both(n, "x", 50, 0)
	}
}

func TestP57_2May(t *testing.T) {
	content := tree.Put(tree.Put(tree.Map(), "users", contentOf("@a:b", 50, "@c:d", 49, "@e:f", -1)), "events", contentOf("x", 60, "y", 49, "z", -2))
	for _, l := range []struct {
		user, kind string
		state, may bool
	}{
		{"@a:b", "x", true, false}, {"@a:b", "x", false, false}, {"@a:b", "y", true, true}, {"@a:b", "other", true, true}, {"@a:b", "other", false, true},
		{"@c:d", "y", true, true}, {"@c:d", "other", true, false}, {"@c:d", "other", false, true},
		{"@e:f", "other", false, false}, {"@e:f", "z", true, true}, {"@g:h", "other", false, true}, {"@g:h", "other", true, false}, {"@g:h", "z", false, true},
	} {
		if got := power.May(content, l.user, l.kind, l.state); got != l.may {
			t.Errorf("%+v: %v", l, got)
		}
	}
	for _, n := range others() {
		if power.May(n, "@a:b", "x", true) || !power.May(n, "@a:b", "x", false) {
			t.Errorf("%+v", n)
		}
	}
	if !power.May(contentOf("users_default", 50), "@a:b", "x", true) || power.May(contentOf("events_default", 1), "@a:b", "x", false) {
		t.Error("by what is told")
	}
}

func TestP57_3MorePowerMayMore(t *testing.T) {
	r := rand.New(rand.NewSource(57))
	names, kinds := []string{"a", "b", "c", "d"}, []string{"x", "y", "z"}
	for range 3000 {
		content, users, events := tree.Map(), tree.Map(), tree.Map()
		for name := range fields {
			if r.Intn(2) == 0 {
				content = tree.Put(content, name, tree.Int(r.Int63n(7)-3))
			}
		}
		for _, name := range names[:r.Intn(4)] {
			users = tree.Put(users, name, tree.Int(r.Int63n(7)-3))
		}
		for _, kind := range kinds[:r.Intn(3)] {
			events = tree.Put(events, kind, tree.Int(r.Int63n(7)-3))
		}
		content = tree.Put(tree.Put(content, "users", users), "events", events)
		for _, a := range names {
			for _, b := range names {
				for _, kind := range kinds {
					for _, state := range []bool{false, true} {
						more := power.User(content, a) >= power.User(content, b)
						if more && power.May(content, b, kind, state) && !power.May(content, a, kind, state) {
							t.Errorf("%+v: %q, %q, %q", content, a, b, kind)
						}
						if power.May(content, a, kind, state) != (power.User(content, a) >= power.Event(content, kind, state)) {
							t.Errorf("%+v: %q, %q", content, a, kind)
						}
					}
				}
			}
		}
	}
}
