package read

import (
	"hibernacle/api"
	"hibernacle/datum"
	"hibernacle/heap"
	"hibernacle/lex"
	"hibernacle/sym"
)

// newNames is how many symbols of the data in a node have no number yet.
func newNames(t *sym.Table, top *node) int {
	names := map[string]struct{}{}
	top.each(func(n *node) {
		if n.token.Kind != lex.Symbol {
			return
		}
		if _, there := t.Find(n.token.S); !there {
			names[n.token.S] = struct{}{}
		}
	})
	return len(names)
}

// build makes the data in a node, for which there is room.
func build(h *heap.Heap, t *sym.Table, top *node) []api.Val {
	// All objects are there ahead of what lies in them: one that goes round
	// refers to itself.
	top.each(func(n *node) { n.val = bare(h, t, n) })
	top.each(func(n *node) { lay(h, n) })
	var vals []api.Val
	for _, item := range top.items {
		vals = append(vals, item.stands().val)
	}
	return vals
}

// bare is a datum's value; of what other data lie in they are laid in later.
func bare(h *heap.Heap, t *sym.Table, n *node) api.Val {
	var v api.Val
	switch n.token.Kind {
	case lex.Int:
		v = api.Val{K: api.Int, N: n.token.N}
	case lex.Bool:
		v = api.Val{K: api.Bool, N: n.token.N}
	case lex.Char:
		v = api.Val{K: api.Char, N: n.token.N}
	case lex.Symbol:
		number, _ := t.Number(n.token.S)
		v = api.Val{K: api.Sym, N: number}
	case lex.String:
		v, _ = datum.String(h, n.token.S)
	case lex.Bytes:
		v, _ = h.Add(api.Obj{Kind: api.Bytes, Bytes: bytesOf(n)})
	case lex.Vector:
		v, _ = datum.Vector(h, make([]api.Val, len(n.items)))
	default:
		v, _ = datum.Build(h, make([]api.Val, n.pairs()), api.Val{})
	}
	return v
}

// bytesOf is the bytes that lie in a node.
func bytesOf(n *node) []byte {
	var b []byte
	for _, item := range n.items {
		b = append(b, byte(item.token.N))
	}
	return b
}

// lay has what lies in a datum be in its objects.
func lay(h *heap.Heap, n *node) {
	if n.token.Kind == lex.Vector {
		for i, item := range n.items {
			h.Set(n.val, i, item.stands().val)
		}
		return
	}
	if n.pairs() == 0 {
		return
	}
	items := n.items
	for pair := range datum.Items(h, n.val) {
		h.Set(pair, 0, items[0].stands().val)
		items = items[1:]
		if n.dotted && len(items) == 1 {
			h.Set(pair, 1, items[0].stands().val)
		}
	}
}
