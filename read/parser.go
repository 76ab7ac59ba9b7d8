package read

import (
	"maps"

	"hibernacle/api"
	"hibernacle/lex"
)

// parser makes a tree of tokens. What takes something tells whether there was
// no fault.
type parser struct {
	// tokens are those that are left.
	tokens []lex.Token
	// size is the text's length.
	size int
	// labels are those that an again may name here, by their numbers.
	labels map[int]*node
	// deep is how many brackets, marks and labels the next datum lies in.
	deep int
	// place and e are the first fault, if e isn't OK.
	place int
	e     api.Errno
}

// parse is a node that holds a text's data, or the first fault.
func parse(s string) (*node, int, api.Errno) {
	tokens, place, e := lex.Scan(s)
	if e != api.OK {
		return nil, place, e
	}
	p := parser{tokens: tokens, size: len(s), labels: map[int]*node{}}
	top := &node{}
	for p.skips() && len(p.tokens) > 0 && p.datum(top) {
	}
	if p.e != api.OK {
		return nil, p.place, p.e
	}
	return top, len(s), api.OK
}

// is tells whether the next token is of a kind.
func (p *parser) is(k lex.Kind) bool {
	return len(p.tokens) > 0 && p.tokens[0].Kind == k
}

// take takes the next token.
func (p *parser) take() lex.Token {
	t := p.tokens[0]
	p.tokens = p.tokens[1:]
	return t
}

// fails keeps a fault of the next token, or of what lacks.
func (p *parser) fails(e api.Errno) bool {
	p.place, p.e = p.size, e
	if len(p.tokens) > 0 {
		p.place = p.tokens[0].At
	}
	return false
}

// skips takes all that is skipped.
func (p *parser) skips() bool {
	for p.is(lex.Skip) {
		p.take()
		outside := p.labels
		p.labels = maps.Clone(outside)
		if !p.behind(&node{}) {
			return false
		}
		p.labels = outside
	}
	return true
}

// behind takes what is skipped, and the datum behind it.
func (p *parser) behind(in *node) bool {
	return p.skips() && p.datum(in)
}

// datum takes a datum that lies in a node.
func (p *parser) datum(in *node) bool {
	if e := p.fault(in); e != api.OK {
		return p.fails(e)
	}
	n := in.add(p.take())
	p.deep++
	fine := p.rest(n)
	p.deep--
	return fine
}

// fault is what is wrong with the next token as the first one of a datum that
// lies in a node; of several faults it is the one that 17.1 names first.
func (p *parser) fault(in *node) api.Errno {
	if len(p.tokens) == 0 {
		return api.ErrEnd
	}
	t := p.tokens[0]
	label, known := p.labels[t.N]
	switch {
	case !begins(t.Kind), in.token.Kind == lex.Bytes && !isByte(t):
		return api.ErrForm
	case t.Kind == lex.Again && !known:
		return api.ErrNone
	case t.Kind == lex.Again && label.stands() == nil:
		return api.ErrForm
	case t.Kind == lex.Label && known:
		return api.ErrTwice
	case in.full(), p.deep >= api.MaxDeep && holds(t.Kind):
		return api.ErrLong
	}
	return api.OK
}

// rest takes what belongs to a datum behind its first token.
func (p *parser) rest(n *node) bool {
	switch n.token.Kind {
	case lex.Open, lex.Vector, lex.Bytes:
		return p.row(n)
	case lex.Quote, lex.Quasi, lex.Unquote, lex.Splice:
		n.add(lex.Token{Kind: lex.Symbol, S: nameOf(n.token.Kind)})
		return p.behind(n)
	case lex.Label:
		p.labels[n.token.N] = n
		return p.behind(n)
	case lex.Again:
		n.same = p.labels[n.token.N].stands()
	}
	return true
}

// row takes the data in a bracket, and the one that closes it.
func (p *parser) row(n *node) bool {
	for p.skips() {
		switch {
		case p.is(lex.Close):
			p.take()
			return true
		case p.is(lex.Dot) && n.token.Kind == lex.Open && len(n.items) > 0:
			p.take()
			n.dotted = true
			return p.behind(n) && p.skips() && p.close()
		case !p.datum(n):
			return false
		}
	}
	return false
}

// close takes a bracket that closes.
func (p *parser) close() bool {
	switch {
	case len(p.tokens) == 0:
		return p.fails(api.ErrEnd)
	case !p.is(lex.Close):
		return p.fails(api.ErrForm)
	}
	p.take()
	return true
}

// begins tells whether a datum may begin with a token of a kind.
func begins(k lex.Kind) bool {
	switch k {
	case lex.Close, lex.Skip, lex.Dot:
		return false
	}
	return true
}

// holds tells whether data lie in what begins with a token of a kind.
func holds(k lex.Kind) bool {
	switch k {
	case lex.Open, lex.Vector, lex.Bytes, lex.Quote, lex.Quasi, lex.Unquote, lex.Splice, lex.Label:
		return true
	}
	return false
}

// isByte tells whether a token is a number that a byte may have.
func isByte(t lex.Token) bool {
	return t.Kind == lex.Int && 0 <= t.N && t.N <= 255
}

// nameOf is the symbol of a mark.
func nameOf(mark lex.Kind) string {
	switch mark {
	case lex.Quasi:
		return "quasiquote"
	case lex.Unquote:
		return "unquote"
	case lex.Splice:
		return "unquote-splicing"
	}
	return "quote"
}
