package auth

import (
	"sealring/api"
	"sealring/eventid"
	"sealring/field"
	"sealring/power"
	"sealring/state"
	"sealring/tree"
)

// makerPower is the power of who made a room that says nothing of power.
const makerPower = 100

// public is the rule by which whoever isn't banned may come in.
const public = "public"

// room is a room as an event sees it.
type room struct {
	has        func(kind string) bool                // does the state have an event of that type and an empty key?
	membership func(user string) string              // what is the user here?
	power      func(user string) int64               // how much power has the user?
	levels     func() power.Levels                   // how much does what ask?
	level      func(kind string, isState bool) int64 // how much does an event of that type ask?
	isMaker    func(user string) bool                // did the user make the room?
	isPublic   func() bool                           // may whoever isn't banned come in?
	isNew      func() bool                           // has the state one event alone?
}

// left is the room that those events leave.
func left(v int, l ...api.Node) (room, api.Errno) {
	s, errno := state.Of(v, l...)
	if errno != api.OK {
		return room{}, errno
	}
	events := byID(v, l...)
	event := func(kind, key string) api.Node {
		id, _ := s.Get(state.Key{Type: kind, Key: key})
		return events[id] // of the empty ID there is none
	}
	content := func(kind, key string) api.Node {
		n, _ := tree.Get(event(kind, key), contentField)
		return n
	}
	has := func(kind string) bool {
		_, ok := s.Get(state.Key{Type: kind})
		return ok
	}
	isMaker := func(user string) bool {
		maker, ok := field.Text(event(createType, ""), senderField)
		return ok && user == maker
	}
	return room{
		has: has,
		membership: func(user string) string {
			if is, ok := field.Text(content(memberType, user), memberField); ok {
				return is
			}
			return leave
		},
		power: func(user string) int64 {
			if isMaker(user) && !has(powerType) {
				return makerPower
			}
			return power.User(content(powerType, ""), user)
		},
		levels: func() power.Levels { return power.Of(content(powerType, "")) },
		level: func(kind string, isState bool) int64 {
			return power.Event(content(powerType, ""), kind, isState)
		},
		isMaker: isMaker,
		isPublic: func() bool {
			rule, _ := field.Text(content(rulesType, ""), ruleField)
			return rule == public
		},
		isNew: func() bool { return s.Len() == 1 },
	}, api.OK
}

// byID are events that state lets pass, by their IDs.
func byID(v int, l ...api.Node) map[string]api.Node {
	events := map[string]api.Node{}
	ids, _ := eventid.All(v, l...) // whose errors are state's, too
	for place, id := range ids {
		events[id] = l[place]
	}
	return events
}
