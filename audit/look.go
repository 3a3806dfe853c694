package audit

import (
	"iter"

	"sealring/api"
	"sealring/caps"
	"sealring/room"
	"sealring/tree"
)

// What may be odd about an event.
const (
	missing = "missing"
	depth   = "depth"
	auth    = "auth"
	ring    = "ring"
)

// The fields that are looked at.
const (
	authField  = "auth_events"
	depthField = "depth"
)

// look tells what is odd about an event beside another one; a zero Finding, if nothing is.
type look func(id, other string) Finding

// found is what a look finds about an event beside each of others.
func found(id string, at look, others ...string) []Finding {
	var out []Finding
	for _, other := range others {
		if f := at(id, other); f != (Finding{}) {
			out = append(out, f)
		}
	}
	return out
}

// lookAhead looks at one that stands right behind an event, or should.
func lookAhead(r *room.Room) look {
	return func(id, other string) Finding {
		_, here := r.Event(other)
		switch {
		case !here:
			return Finding{id, missing, other}
		case depthOf(r, id) <= depthOf(r, other):
			return Finding{id, depth, other}
		}
		return Finding{}
	}
}

// lookForAuth looks at one that is to allow an event.
func lookForAuth(r *room.Room) look {
	return func(id, other string) Finding {
		if _, here := r.Event(other); !here {
			return Finding{id, auth, other}
		}
		return Finding{}
	}
}

// lookForRings looks whether an event leads to itself, beside no other one.
func lookForRings(taken []string, past func(id string) iter.Seq[string]) look {
	ordered := map[string]bool{}
	for _, id := range taken {
		ordered[id] = true
	}
	return func(id, none string) Finding {
		// What has a place in the order is in no ring: its whole past needn't be gone through.
		if ordered[id] {
			return Finding{}
		}
		for other := range past(id) {
			if other == id {
				return Finding{id, ring, none}
			}
		}
		return Finding{}
	}
}

// fieldOf is a field of the event of that ID.
func fieldOf(r *room.Room, id, key string) api.Node {
	e, _ := r.Event(id)
	n, _ := tree.Get(e, key)
	return n
}

func depthOf(r *room.Room, id string) int64 { return fieldOf(r, id, depthField).N }

// authOf are the IDs of those that are to allow an event.
func authOf(r *room.Room, id string) []string {
	ids, _ := caps.Refs(r.Version(), fieldOf(r, id, authField), api.MaxAuth) // what came into a room names them as it may
	return ids
}
