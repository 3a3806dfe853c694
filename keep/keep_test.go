package keep_test

import (
	"math"
	"slices"
	"strings"
	"testing"

	"sealring/api"
	"sealring/keep"
)

var noVersions = []int{0, -1, 12, 13, 100, math.MinInt, math.MaxInt}

// top is what is kept at the top, up to version 10, and from 11 on.
func top(v int) []string {
	if v >= 11 {
		return strings.Fields("auth_events content depth event_id hashes origin_server_ts prev_events room_id sender signatures state_key type")
	}
	return strings.Fields("auth_events content depth event_id hashes membership origin origin_server_ts prev_events prev_state room_id sender signatures state_key type")
}

func TestP32_1Top(t *testing.T) {
	for v := 1; v <= 11; v++ {
		if got, e := keep.Top(v); !slices.Equal(got, top(v)) || e != api.OK {
			t.Errorf("Top(%d): %v, %d", v, got, e)
		}
	}
	for _, v := range noVersions {
		if got, e := keep.Top(v); len(got) != 0 || e != api.ErrVersion {
			t.Errorf("Top(%d): %v, %d", v, got, e)
		}
	}
}

// span is what is kept of a content from one version to another.
type span struct {
	kind     string
	from, to int
	keys     string
	all      bool
}

var spans = []span{
	{"m.room.member", 1, 8, "membership", false},
	{"m.room.member", 9, 10, "join_authorised_via_users_server membership", false},
	{"m.room.member", 11, 11, "join_authorised_via_users_server membership third_party_invite", false},
	{"m.room.create", 1, 10, "creator", false},
	{"m.room.create", 11, 11, "", true},
	{"m.room.join_rules", 1, 7, "join_rule", false},
	{"m.room.join_rules", 8, 11, "allow join_rule", false},
	{"m.room.power_levels", 1, 10, "ban events events_default kick redact state_default users users_default", false},
	{"m.room.power_levels", 11, 11, "ban events events_default invite kick redact state_default users users_default", false},
	{"m.room.aliases", 1, 5, "aliases", false},
	{"m.room.aliases", 6, 11, "", false},
	{"m.room.history_visibility", 1, 11, "history_visibility", false},
	{"m.room.redaction", 1, 10, "", false},
	{"m.room.redaction", 11, 11, "redacts", false},
}

func TestP32_2Content(t *testing.T) {
	for _, s := range spans {
		for v := s.from; v <= s.to; v++ {
			if got, all := keep.Content(v, s.kind); !slices.Equal(got, strings.Fields(s.keys)) || all != s.all {
				t.Errorf("Content(%d, %q): %v, %v", v, s.kind, got, all)
			}
		}
	}
}

func TestP32_2ContentOfOthers(t *testing.T) {
	none := func(v int, kind string) {
		t.Helper()
		if got, all := keep.Content(v, kind); len(got) != 0 || all {
			t.Errorf("Content(%d, %q): %v, %v", v, kind, got, all)
		}
	}
	for v := 1; v <= 11; v++ {
		for _, kind := range []string{"", "m.room", "m.room.message", "m.room.name", "m.room.members", "m.room.membe", "M.ROOM.MEMBER", "m.room.member ", "m.room.create\x00", "member", "m.room.third_party_invite", "m.room.encryption", "\xff"} {
			none(v, kind)
		}
	}
	for _, v := range noVersions {
		for _, s := range spans {
			none(v, s.kind)
		}
		none(v, "")
	}
}

func TestP32_3Inner(t *testing.T) {
	for v := -1; v <= 13; v++ {
		for _, s := range append(spans, span{kind: ""}, span{kind: "m.room.third_party_invite"}) {
			for _, key := range []string{"third_party_invite", "membership", "signed", "", "third_party_invite ", "creator", "Third_party_invite"} {
				got, ok := keep.Inner(v, s.kind, key)
				want := v == 11 && s.kind == "m.room.member" && key == "third_party_invite"
				if ok != want || want && !slices.Equal(got, []string{"signed"}) || !want && len(got) != 0 {
					t.Errorf("Inner(%d, %q, %q): %v, %v", v, s.kind, key, got, ok)
				}
			}
		}
	}
	for _, v := range noVersions {
		if got, ok := keep.Inner(v, "m.room.member", "third_party_invite"); len(got) != 0 || ok {
			t.Errorf("Inner of %d: %v", v, got)
		}
	}
}

func TestP32AllListsRiseAndAreNew(t *testing.T) {
	lists := func() [][]string {
		var out [][]string
		for v := 1; v <= 11; v++ {
			l, _ := keep.Top(v)
			out = append(out, l)
			for _, s := range spans {
				l, _ := keep.Content(v, s.kind)
				out = append(out, l)
			}
			l, _ = keep.Inner(v, "m.room.member", "third_party_invite")
			out = append(out, l)
		}
		return out
	}
	first, kept := lists(), lists()
	for i, l := range first {
		if !slices.IsSorted(l) || len(slices.Compact(slices.Clone(l))) != len(l) {
			t.Error(l)
		}
		for j := range l { // which is nobody's but the test's
			first[i][j] = "changed"
		}
	}
	if !slices.EqualFunc(lists(), kept, slices.Equal) {
		t.Error("what is answered is kept")
	}
}

func TestP7EveryCallEnds(t *testing.T) {
	for i := range 64 {
		for _, v := range []int{1 << i, -1 << i, i} {
			keep.Top(v)
			keep.Content(v, "m.room.member")
			keep.Inner(v, "m.room.member", "third_party_invite")
		}
	}
}
