package batch

import (
	"iter"
	"slices"

	"sealring/api"
	"sealring/canon"
	"sealring/frame"
)

// cut goes through the transactions into which l is cut, if nothing of it is refused.
func (l Load) cut() iter.Seq[api.Txn] {
	return func(yield func(api.Txn) bool) {
		last, size := l.of(nil, nil), 0
		// Sizes are summed up: to write the whole anew for each event would take far longer.
		fits := func(one api.Txn) bool {
			pdus, edus := len(last.Pdus)+len(one.Pdus), len(last.Edus)+len(one.Edus)
			return pdus <= api.MaxPdus && edus <= api.MaxEdus && l.around(pdus, edus)+size+within(one) <= api.MaxTxn
		}
		for one := range l.singles() {
			if !fits(one) {
				if !yield(last) {
					return
				}
				last, size = l.of(nil, nil), 0
			}
			last, size = api.Txn(Join(last, one)), size+within(one)
		}
		if len(last.Pdus)+len(last.Edus) > 0 {
			yield(last)
		}
	}
}

// within is how many bytes the forms of t's events have.
func within(t api.Txn) int { return sizes(t.Pdus...) + sizes(t.Edus...) }

func sizes(l ...api.Node) int {
	sum := 0
	for _, n := range l {
		size, _ := canon.Size(n)
		sum += size
	}
	return sum
}

// around is how many bytes stand around the forms of so many events, whichever they are.
func (l Load) around(pdus, edus int) int {
	standIns := func(many int) []api.Node { return slices.Repeat([]api.Node{{Kind: api.Null}}, many) }
	t := l.of(standIns(pdus), standIns(edus))
	whole, _ := canon.Size(frame.Write(t))
	return whole - within(t)
}
