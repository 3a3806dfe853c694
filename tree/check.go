package tree

import (
	"sealring/api"
	"sealring/num"
	"sealring/utf"
)

// node is a node that is looked at, whether it may be.
type node api.Node

// Check: P7.2.
func Check(n api.Node) api.Errno { return node(n).check(1) }

// look is what is asked of a node of one kind, that stands so deep.
type look func(n node, level int) api.Errno

// lookOf tells what is asked of a node of a kind, and whether there is such a kind.
func lookOf(kind int) (look, bool) {
	if kind < api.Null || kind > api.Map {
		return nil, false
	}
	looks := [...]look{api.Null: node.null, api.Bool: node.truth, api.Int: node.number, api.Text: node.text, api.List: node.list, api.Map: node.entries}
	return looks[kind], true
}

func (n node) check(level int) api.Errno {
	if level > api.MaxDepth {
		return api.ErrDeep
	}
	ask, ok := lookOf(n.Kind)
	if !ok || n.hasMore() {
		return api.ErrKind
	}
	return ask(n, level)
}

// hasMore: has it something that its kind has not?
func (n node) hasMore() bool {
	number := n.Kind == api.Bool || n.Kind == api.Int
	list := n.Kind == api.List || n.Kind == api.Map
	return !number && n.N != 0 || n.Kind != api.Text && n.S != "" || !list && len(n.L) > 0 || n.Kind != api.Map && len(n.K) > 0
}

func (n node) null(int) api.Errno { return api.OK }

func (n node) truth(int) api.Errno {
	if n.N != 0 && n.N != 1 {
		return api.ErrRange
	}
	return api.OK
}

func (n node) number(int) api.Errno {
	if !num.Fits(n.N) {
		return api.ErrRange
	}
	return api.OK
}

func (n node) text(int) api.Errno {
	if !utf.Valid(n.S) {
		return api.ErrText
	}
	return api.OK
}

func (n node) list(level int) api.Errno {
	for _, m := range n.L {
		if e := node(m).check(level + 1); e != api.OK {
			return e
		}
	}
	return api.OK
}

func (n node) entries(level int) api.Errno {
	if len(n.K) != len(n.L) {
		return api.ErrArg
	}
	seen := map[string]bool{}
	for i, key := range n.K {
		if !utf.Valid(key) {
			return api.ErrText
		}
		if seen[key] {
			return api.ErrTwice
		}
		seen[key] = true
		if e := node(n.L[i]).check(level + 1); e != api.OK {
			return e
		}
	}
	return api.OK
}
