package dag

import (
	"container/heap"
	"sort"
)

// places are a heap of events' places, the least one on top.
type places struct{ sort.IntSlice }

// Push and Pop are those of container/heap.
func (p *places) Push(place any) { p.IntSlice = append(p.IntSlice, place.(int)) }

func (p *places) Pop() any {
	last := p.Len() - 1
	place := p.IntSlice[last]
	p.IntSlice = p.IntSlice[:last]
	return place
}

// Order: P46.2.
func (g *Graph) Order() ([]string, bool) {
	has := g.parts()
	waits := map[string]int{} // by IDs: how many that it names, and that are here, weren't taken yet
	namers := map[string][]string{}
	var ready places
	for place, id := range has.ids {
		for name := range g.here(id) {
			waits[id]++
			namers[name] = append(namers[name], id)
		}
		if waits[id] == 0 {
			heap.Push(&ready, place)
		}
	}
	var taken []string
	for ready.Len() > 0 {
		id := has.ids[heap.Pop(&ready).(int)]
		taken = append(taken, id)
		for _, namer := range namers[id] {
			if waits[namer]--; waits[namer] == 0 {
				heap.Push(&ready, has.events[namer].place)
			}
		}
	}
	return taken, len(taken) == len(has.ids)
}
