package outbox

import (
	"slices"

	"sealring/api"
	"sealring/batch"
)

// most is how many of a kind may wait for one server.
const most = 200

// How long a server is left alone where something didn't get there.
const (
	shortest = 1
	longest  = 64
)

// amount is so many of the first ones that wait.
type amount struct{ pdus, edus int }

// queue is what waits for a server.
type queue struct {
	waits batch.Load // without a time
	under amount     // what of it is under way; a zero one, if nothing is
	sent  int        // how many transactions got there
	due   int64
	wait  int64
}

func newQueue(origin string) *queue {
	return &queue{waits: batch.Load{Origin: origin}, wait: shortest}
}

// join puts an event behind those that wait already.
func join(l *[]api.Node, e api.Node) api.Errno {
	if len(*l) >= most {
		return api.ErrFull
	}
	*l = append(*l, owned(e))
	return api.OK
}

// owned is a node that shares no memory with n, so that nobody else can change it.
func owned(n api.Node) api.Node {
	n.K, n.L = slices.Clone(n.K), slices.Clone(n.L)
	for i, m := range n.L {
		n.L[i] = owned(m)
	}
	return n
}

// busy: is something under way?
func (q *queue) busy() bool { return q.under != amount{} }

// ready: is it the server's turn?
func (q *queue) ready(now int64) bool {
	return len(q.waits.Pdus)+len(q.waits.Edus) > 0 && !q.busy() && q.due <= now
}

// arrived takes away what was under way.
func (q *queue) arrived(now int64) {
	q.waits.Pdus = slices.Delete(q.waits.Pdus, 0, q.under.pdus)
	q.waits.Edus = slices.Delete(q.waits.Edus, 0, q.under.edus)
	q.under, q.sent, q.due, q.wait = amount{}, q.sent+1, now, shortest
}

// failed leaves what was under way where it waits.
func (q *queue) failed(now int64) {
	q.under, q.due, q.wait = amount{}, now+q.wait, min(2*q.wait, longest)
}
