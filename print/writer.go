package print

import (
	"strings"

	"hibernacle/api"
	"hibernacle/lex"
	"hibernacle/sym"
)

// words are the words of the kinds that no more is told of, from Box on.
var words = [...]string{"box", "closure", "frame", "code", "error", "values", "kont", "continuation", "port", "alias"}

// writer gathers what is written.
type writer struct {
	b     strings.Builder
	names *sym.Table
	// word tells the texts of words.
	word func(lex.Token) string
	// graph is what is come to from the value on that is being written.
	graph *graph
	// labels are the numbers of what is marked, and was written already.
	labels map[api.Val]int
}

func (w *writer) put(s string) {
	w.b.WriteString(s)
}

func (w *writer) token(k lex.Kind, n int, s string) {
	w.put(w.word(lex.Token{Kind: k, N: n, S: s}))
}

// row writes so many things with blanks between.
func (w *writer) row(count int, one func(i int)) {
	for i := range count {
		if i > 0 {
			w.put(" ")
		}
		one(i)
	}
}

// value writes a value.
func (w *writer) value(v api.Val) {
	switch v.K {
	case api.Nil:
		w.put("()")
	case api.Bool:
		w.token(lex.Bool, v.N, "")
	case api.Int:
		w.token(lex.Int, v.N, "")
	case api.Char:
		w.token(lex.Char, v.N, "")
	case api.Sym:
		w.symbol(w.names.Name(v.N))
	case api.Prim:
		w.put("#<procedure ")
		w.token(lex.Int, v.N, "")
		w.put(">")
	case api.Unspec:
		w.put("#<unspecified>")
	case api.Eof:
		w.put("#<eof>")
	case api.Ref:
		w.ref(v)
	}
}

// symbol writes a symbol by its name, if it has one.
func (w *writer) symbol(name string) {
	if name == "" {
		w.put("#<symbol>")
		return
	}
	w.token(lex.Symbol, 0, name)
}

// ref writes the object that a Ref refers to, or of a marked one that was
// written already its label.
func (w *writer) ref(v api.Val) {
	o, there := w.graph.objs[v]
	if !there {
		w.put("#<gone>")
		return
	}
	if w.graph.isMarked(v) {
		n, was := w.labels[v]
		if was {
			w.token(lex.Again, n, "")
			return
		}
		n = len(w.labels)
		w.labels[v] = n
		w.token(lex.Label, n, "")
	}
	w.object(o)
}

// object writes an object.
func (w *writer) object(o api.Obj) {
	switch o.Kind {
	case api.Pair:
		w.pair(o)
	case api.Vector:
		w.token(lex.Vector, 0, "")
		w.row(len(o.Vals), func(i int) { w.value(o.Vals[i]) })
		w.token(lex.Close, 0, "")
	case api.String:
		w.token(lex.String, 0, string(o.Bytes))
	case api.Bytes:
		w.token(lex.Bytes, 0, "")
		w.row(len(o.Bytes), func(i int) { w.token(lex.Int, int(o.Bytes[i]), "") })
		w.token(lex.Close, 0, "")
	default:
		w.put("#<" + words[o.Kind-api.Box] + ">")
	}
}

// pair writes a pair, and those that its chain goes on with.
func (w *writer) pair(o api.Obj) {
	if w.quoted(o) {
		return
	}
	w.token(lex.Open, 0, "")
	w.value(o.Vals[0])
	end := o.Vals[1]
	for {
		next, goesOn := w.graph.next(end)
		if !goesOn {
			break
		}
		w.put(" ")
		w.value(next.Vals[0])
		end = next.Vals[1]
	}
	if end.K != api.Nil {
		w.put(" . ")
		w.value(end)
	}
	w.token(lex.Close, 0, "")
}

// quoted writes a list of a mark's symbol and one item by that mark, and tells
// whether the pair begins such a one.
func (w *writer) quoted(o api.Obj) bool {
	mark, is := w.mark(o.Vals[0])
	rest, goesOn := w.graph.next(o.Vals[1])
	if !is || !goesOn || rest.Vals[1].K != api.Nil {
		return false
	}
	w.token(mark, 0, "")
	item := rest.Vals[0]
	if mark == lex.Unquote && item.K == api.Sym && strings.HasPrefix(w.names.Name(item.N), "@") {
		// Side by side both would be read as the mark `,@`.
		w.put(" ")
	}
	w.value(item)
	return true
}

// mark is the mark whose symbol a value is, if it is such a one.
func (w *writer) mark(v api.Val) (lex.Kind, bool) {
	if v.K != api.Sym {
		return 0, false
	}
	switch w.names.Name(v.N) {
	case "quote":
		return lex.Quote, true
	case "quasiquote":
		return lex.Quasi, true
	case "unquote":
		return lex.Unquote, true
	case "unquote-splicing":
		return lex.Splice, true
	}
	return 0, false
}
