package print_test

import (
	"strings"
	"testing"

	"hibernacle/api"
)

// quotes are the marks by their symbols.
func quotes() map[string]string {
	return map[string]string{"quote": "'", "quasiquote": "`", "unquote": ",", "unquote-splicing": ",@"}
}

// 18.1: a list of a mark's symbol and one item is written by the mark.
func TestQuotes(t *testing.T) {
	for name, mark := range quotes() {
		w := newWorld(t)
		s, x := w.sym(name), w.sym("x")
		w.writes(w.list(s, x), mark+"x")
		w.writes(w.chain(api.Val{K: api.Nil, N: 3}, s, x), mark+"x")
		w.writes(w.list(s, null), mark+"()")
		w.writes(w.list(s, s), mark+name)
		w.writes(w.list(s, number(-1)), mark+"-1")
		w.writes(w.list(s, w.list(x, x)), mark+"(x x)")
		w.writes(w.list(s, w.pair(x, x)), mark+"(x . x)")
		w.writes(w.list(s, w.vector(x)), mark+"#(x)")
		w.writes(w.list(s, w.bytes(1)), mark+"#u8(1)")
		w.writes(w.list(s, w.box(x)), mark+"#<box>")
		w.asks(w.list(s, w.text("a")), mark+`"a"`, mark+"a")
		w.asks(w.list(s, char(')')), mark+`#\)`, mark+")")
		w.writes(w.vector(w.list(s, x), x), "#("+mark+"x x)")
		w.writes(w.list(w.list(s, x), w.list(s, x)), "("+mark+"x "+mark+"x)")
		w.writes(w.pair(w.list(s, x), x), "("+mark+"x . x)")
	}
}

// 18.1: what isn't a list of two isn't written by the mark.
func TestQuotesElse(t *testing.T) {
	for name := range quotes() {
		w := newWorld(t)
		s, x, y := w.sym(name), w.sym("x"), w.sym("y")
		w.writes(s, name)
		w.writes(w.list(s), "("+name+")")
		w.writes(w.list(s, x, y), "("+name+" x y)")
		w.writes(w.pair(s, x), "("+name+" . x)")
		w.writes(w.chain(y, s, x), "("+name+" x . y)")
		w.writes(w.chain(w.vector(), s, x), "("+name+" x . #())")
		w.writes(w.pair(s, w.vector(x)), "("+name+" . #(x))")
		w.writes(w.pair(s, w.box(x)), "("+name+" . #<box>)")
		w.writes(w.list(w.list(s), x), "(("+name+") x)")
		w.writes(w.list(x, s), "(x "+name+")")
		w.asks(w.list(w.text(name), x), `("`+name+`" x)`, "("+name+" x)")
		w.writes(w.vector(s, x), "#("+name+" x)")
		w.writes(w.list(w.sym(name+"s"), x), "("+name+"s x)")
		w.writes(w.list(w.sym(strings.ToUpper(name)), x), "("+strings.ToUpper(name)+" x)")
		// In the midst of a chain it begins no datum.
		w.writes(w.list(x, s, y), "(x "+name+" y)")
		w.writes(w.pair(x, w.list(s, y)), "(x "+name+" y)")
		w.writes(w.list(s, s, x), "("+name+" "+name+" x)")
	}
}

// 18.1: marks where something of the list is marked.
func TestQuotesMarked(t *testing.T) {
	for name, mark := range quotes() {
		w := newWorld(t)
		s, x := w.sym(name), w.sym("x")
		list := w.list(s, x)
		second := w.tail(list, 1)
		w.writes(w.list(list, list), "(#0="+mark+"x #0#)", list)
		w.writes(w.pair(x, list), "(x "+name+" x)")
		w.writes(w.chain(list, x, list), "(x #0="+mark+"x . #0#)", list)
		w.writes(w.chain(w.pair(number(1), list), list), "(#0="+mark+"x 1 . #0#)", list)
		w.writes(w.vector(w.pair(number(1), list), list), "#((1 . #0="+mark+"x) #0#)", list)
		w.writes(w.vector(list, second), "#(("+name+" . #0=(x)) #0#)", second)
		w.writes(w.vector(second, list), "#(#0=(x) ("+name+" . #0#))", second)
		w.writes(w.vector(list, second, list), "#(#0=("+name+" . #1=(x)) #1# #0#)", list, second)
		item := w.list(x)
		w.writes(w.vector(w.list(s, item), item), "#("+mark+"#0=(x) #0#)", item)
		w.writes(w.vector(item, w.list(s, item)), "#(#0=(x) "+mark+"#0#)", item)
		text := w.text("a")
		w.asks(w.vector(text, w.list(s, text)), `#(#0="a" `+mark+`#0#)`, "#(#0=a "+mark+"#0#)", text)
	}
}

// 18.1: marks of lists that go round.
func TestQuotesRound(t *testing.T) {
	for name, mark := range quotes() {
		w := newWorld(t)
		s, x := w.sym(name), w.sym("x")
		itself := w.list(s, x)
		w.set(w.tail(itself, 1), 0, itself)
		w.writes(itself, "#0="+mark+"#0#", itself)
		w.writes(w.list(itself), "(#0="+mark+"#0#)", itself)
		inside := w.list(s, x)
		w.set(w.tail(inside, 1), 0, w.vector(x, inside))
		w.writes(inside, "#0="+mark+"#(x #0#)", inside)
		rest := w.list(s, x)
		second := w.tail(rest, 1)
		w.set(second, 0, second)
		w.writes(rest, "("+name+" . #0=(#0#))", second)
		back := w.list(s, x)
		w.set(w.tail(back, 1), 1, back)
		w.writes(back, "#0=("+name+" x . #0#)", back)
		round := w.pair(s, null)
		w.set(round, 1, round)
		w.writes(round, "#0=("+name+" . #0#)", round)
	}
}

// 18.1: marks in marks.
func TestQuotesInQuotes(t *testing.T) {
	w := newWorld(t)
	x := w.sym("x")
	for one, a := range quotes() {
		for two, b := range quotes() {
			inner := w.list(w.sym(two), x)
			w.writes(w.list(w.sym(one), inner), a+b+"x")
			w.writes(w.list(w.sym(one), w.list(x, inner)), a+"(x "+b+"x)")
			w.writes(w.list(w.sym(one), w.sym(two), x), "("+one+" "+two+" x)")
			w.writes(w.pair(w.sym(one), inner), "("+one+" "+two+" x)")
			w.writes(w.pair(w.list(w.sym(one), x), inner), "("+a+"x "+two+" x)")
			w.writes(w.vector(inner, w.list(w.sym(one), inner)), "#(#0="+b+"x "+a+"#0#)", inner)
			w.writes(w.list(w.sym(one), w.list(w.sym(two), w.list(w.sym(one), null))), a+b+a+"()")
		}
	}
}

// 18.1, 18.2: behind the mark `,` a symbol that begins with `@` stands apart: side
// by side they would be another mark.
func TestUnquoteApart(t *testing.T) {
	w := newWorld(t)
	at, x := w.sym("@"), w.sym("@x")
	unquote := w.sym("unquote")
	w.writes(w.list(unquote, at), ", @")
	w.writes(w.list(unquote, x), ", @x")
	w.writes(w.list(unquote, w.list(x)), ",(@x)")
	w.writes(w.list(unquote, w.list(unquote, x)), ",, @x")
	w.writes(w.list(unquote, w.sym("x@")), ",x@")
	w.writes(w.list(unquote, x, x), "(unquote @x @x)")
	w.writes(w.list(w.sym("unquote-splicing"), x), ",@@x")
	w.writes(w.list(w.sym("quote"), x), "'@x")
	w.writes(w.list(w.sym("quasiquote"), x), "`@x")
}
