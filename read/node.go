package read

import (
	"hibernacle/api"
	"hibernacle/lex"
)

// node is a datum of a tree, or, if it is zero at first, what holds data that lie
// in no other one: those of a whole text, and what is skipped.
type node struct {
	// token is a datum's first one.
	token lex.Token
	// items are the data that lie in it, in order: of a mark its symbol ahead.
	items []*node
	// dotted tells that the last item is what a chain ends with.
	dotted bool
	// same is the datum that an again stands for.
	same *node
	// val is what was made of it.
	val api.Val
}

// add has one datum more lie in a node.
func (n *node) add(t lex.Token) *node {
	item := &node{token: t}
	n.items = append(n.items, item)
	return item
}

// each goes over all data that lie in a node, in the order in which they begin.
func (n *node) each(do func(*node)) {
	for _, item := range n.items {
		do(item)
		item.each(do)
	}
}

// stands is the datum that a node stands for, which is another one of a label
// and of an again; nil, if it hasn't begun yet.
func (n *node) stands() *node {
	switch {
	case n.token.Kind == lex.Again:
		return n.same
	case n.token.Kind != lex.Label:
		return n
	case len(n.items) == 0:
		return nil
	}
	return n.items[0].stands()
}

// full tells whether no datum more may lie in a node. (Bytes are never full: a
// text that had more than 4096 of them would be too long itself.)
func (n *node) full() bool {
	return n.token.Kind == lex.Vector && len(n.items) >= api.MaxVals
}

// pairs is how many pairs a datum has.
func (n *node) pairs() int {
	switch n.token.Kind {
	case lex.Open, lex.Quote, lex.Quasi, lex.Unquote, lex.Splice:
		if n.dotted {
			return len(n.items) - 1
		}
		return len(n.items)
	}
	return 0
}

// objects is how many new objects the data in a node need.
func objects(top *node) int {
	sum := 0
	top.each(func(n *node) {
		switch n.token.Kind {
		case lex.String, lex.Vector, lex.Bytes:
			sum++
		default:
			sum += n.pairs()
		}
	})
	return sum
}
