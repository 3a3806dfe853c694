package room

import (
	"maps"
	"slices"

	"sealring/api"
	"sealring/field"
)

// roomField is where an event names its room.
const roomField = "room_id"

// events are what a room keeps of its events.
type events struct {
	ids  []string // in the order in which they came
	byID map[string]api.Node
}

func none() events { return events{byID: map[string]api.Node{}} }

// copied are the same events, to which others may be added by themselves.
func (l events) copied() events {
	return events{ids: slices.Clone(l.ids), byID: maps.Clone(l.byID)}
}

// put puts an event behind all others.
func (l *events) put(id string, e api.Node) {
	l.ids = append(l.ids, id)
	l.byID[id] = owned(e)
}

// owned is a node that shares no memory with n, so that nobody else can change it.
func owned(n api.Node) api.Node {
	n.K, n.L = slices.Clone(n.K), slices.Clone(n.L)
	for i, m := range n.L {
		n.L[i] = owned(m)
	}
	return n
}

// refuses is what is wrong with an event of that ID beside those that are here.
func (l events) refuses(id string, e api.Node) api.Errno {
	_, twice := l.byID[id]
	switch {
	case twice:
		return api.ErrTwice
	case len(l.ids) > 0 && roomOf(e) != l.name():
		return api.ErrID
	}
	return api.OK
}

// name is the room that the first event names.
func (l events) name() string {
	if len(l.ids) == 0 {
		return ""
	}
	return roomOf(l.byID[l.ids[0]])
}

func roomOf(e api.Node) string {
	name, _ := field.Text(e, roomField)
	return name
}

// inOrder are the events as they came.
func (l events) inOrder() []api.Node {
	var out []api.Node
	for _, id := range l.ids {
		out = append(out, l.byID[id])
	}
	return out
}
