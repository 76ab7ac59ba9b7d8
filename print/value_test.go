package print_test

import (
	"fmt"
	"math"
	"testing"

	"hibernacle/api"
	"hibernacle/print"
	"hibernacle/sym"
)

// 18.1: the chapter's examples.
func TestExamples(t *testing.T) {
	w := newWorld(t)
	round := w.pair(number(1), null)
	w.set(round, 1, round)
	w.writes(round, "#0=(1 . #0#)", round)
	w.writes(w.list(w.sym("quote"), w.sym("x")), "'x")
}

// 18.1: numbers, truths, and what else is told by its word.
func TestPlainValues(t *testing.T) {
	w := newWorld(t)
	for n, want := range map[int]string{
		0: "0", 1: "1", -1: "-1", 10: "10", 255: "255", 1234567890: "1234567890",
		math.MaxInt: "9223372036854775807", math.MinInt: "-9223372036854775808",
	} {
		w.writes(number(n), want)
		w.writes(api.Val{K: api.Prim, N: n}, "#<procedure "+want+">")
		w.writes(api.Val{K: api.Nil, N: n}, "()")
		w.writes(api.Val{K: api.Unspec, N: n}, "#<unspecified>")
		w.writes(api.Val{K: api.Eof, N: n}, "#<eof>")
	}
	w.writes(no, "#f")
	w.writes(yes, "#t")
}

// 18.1: a character is written by its name, the byte, or two digits, and shown
// as its byte.
func TestChars(t *testing.T) {
	names := map[int]string{0: "nul", 7: "alarm", 8: "backspace", 9: "tab", 10: "newline", 13: "return", 27: "escape", 32: "space", 127: "delete"}
	w := newWorld(t)
	for n := range 128 {
		want := fmt.Sprintf("x%02x", n)
		switch {
		case names[n] != "":
			want = names[n]
		case 33 <= n:
			want = string(rune(n))
		}
		byItself := string(rune(n))
		w.asks(char(rune(n)), `#\`+want, byItself)
		w.asks(w.list(char(rune(n)), char('b')), `(#\`+want+` #\b)`, "("+byItself+" b)")
		w.asks(w.vector(char(rune(n))), `#(#\`+want+`)`, "#("+byItself+")")
		w.asks(w.pair(null, char(rune(n))), `(() . #\`+want+`)`, "(() . "+byItself+")")
	}
	w.asks(w.list(w.sym("quote"), char('a')), `'#\a`, "'a")
}

// 18.1: symbols are written by their names, also such as couldn't be read.
func TestSymbols(t *testing.T) {
	w := newWorld(t)
	for _, name := range []string{"car", "A", "+", "...", "->b", "car%1", "@", "12", "#t", "a(b", ".", `"`, "'", "quote", "zzzzzzzzzzzzzzzzzzzzzzzzzzzzzzzz"} {
		w.writes(w.sym(name), name)
		w.writes(w.list(w.sym(name)), "("+name+")")
	}
}

// 18.1: a symbol without a name.
func TestNoNames(t *testing.T) {
	w := newWorld(t)
	w.writes(api.Val{K: api.Sym}, "#<symbol>")
	w.sym("a")
	w.sym("quote")
	for _, n := range []int{-1, 2, 3, api.MaxCells, math.MaxInt, math.MinInt} {
		v := api.Val{K: api.Sym, N: n}
		w.writes(v, "#<symbol>")
		w.writes(w.list(v, w.sym("a")), "(#<symbol> a)")
		w.writes(w.list(w.sym("quote"), v), "'#<symbol>")
	}
}

// 18.1: a Ref that refers to nothing.
func TestGone(t *testing.T) {
	w := newWorld(t)
	kept := w.list(number(1))
	dropped := w.list(number(2))
	in := map[string]api.Val{
		"(#<gone> 1)":              w.chain(kept, dropped),
		"(1 . #<gone>)":            w.pair(number(1), dropped),
		"#(#<gone> #<gone> (1))":   w.vector(dropped, dropped, kept),
		"'#<gone>":                 w.list(w.sym("quote"), dropped),
		"(quote . #<gone>)":        w.pair(w.sym("quote"), dropped),
		"(quote x . #<gone>)":      w.chain(dropped, w.sym("quote"), w.sym("x")),
		"(#<gone> #<gone> #<box>)": w.list(dropped, dropped, w.box(dropped)),
	}
	if !w.h.Drop(dropped) {
		t.Fatal("it wasn't there")
	}
	for want, v := range in {
		w.writes(v, want)
	}
	for _, v := range []api.Val{dropped, ref(-1), ref(-2), ref(100), ref(api.MaxCells), ref(math.MaxInt), ref(math.MinInt)} {
		w.writes(v, "#<gone>")
	}
	// A place without an object may have another one later.
	if v := w.list(number(7)); v != dropped {
		t.Fatal("it is at another place:", v)
	}
	w.writes(dropped, "(7)")
	w.writes(in["#(#<gone> #<gone> (1))"], "#(#0=(7) #0# (1))", dropped)
}

// 18.1: a nil memory, a nil table, and both.
func TestNil(t *testing.T) {
	w := newWorld(t)
	name := w.sym("quote")
	list := w.list(name, number(1))
	for v, want := range map[api.Val]string{
		null: "()", no: "#f", yes: "#t", number(-3): "-3", char('('): `#\(`, name: "quote", {K: api.Prim, N: 4}: "#<procedure 4>",
		unspec: "#<unspecified>", eof: "#<eof>", list: "#<gone>", ref(-1): "#<gone>",
	} {
		nameless := want
		if v == name {
			nameless = "#<symbol>"
		}
		byItself := func(s string) string {
			if v == char('(') {
				return "("
			}
			return s
		}
		for _, x := range []*sym.Table{w.x, nil} {
			asked := want
			if x == nil {
				asked = nameless
			}
			if a, b, c := print.Write(nil, x, v), print.Show(nil, x, v), print.All(nil, x, []api.Val{v, v}); a != asked || b != byItself(asked) || c != asked+" "+asked {
				t.Fatalf("%v, no memory: %s, %s, %s; asked for %s", v, a, b, c, asked)
			}
			if got := print.All(nil, x, nil); got != "" {
				t.Fatalf("All: %s", got)
			}
		}
		if v != list {
			if a, b := print.Write(w.h, nil, v), print.Show(w.h, nil, v); a != nameless || b != byItself(nameless) {
				t.Fatalf("%v, no table: %s, %s", v, a, b)
			}
		}
		if got := print.Marked(nil, v); len(got) != 0 {
			t.Fatalf("%v: Marked: %v", v, got)
		}
	}
	if a, b, c := print.Write(w.h, nil, list), print.Show(w.h, nil, list), print.All(w.h, nil, []api.Val{list}); a != "(#<symbol> 1)" || b != a || c != a {
		t.Fatalf("no table: %s, %s, %s", a, b, c)
	}
}

// P1: what is no value isn't written as anything, and nothing panics.
func TestNoValues(t *testing.T) {
	w := newWorld(t)
	w.list(number(1))
	for _, k := range []api.Kind{-1, -2, api.Kinds, api.Kinds + 1, math.MaxInt, math.MinInt} {
		for _, n := range []int{0, 1, -1, math.MaxInt} {
			w.writes(api.Val{K: k, N: n}, "")
		}
	}
	for _, k := range []api.Kind{api.Bool, api.Char} {
		for _, n := range []int{-1, 2, 128, 255, 256, math.MaxInt, math.MinInt} {
			v := api.Val{K: k, N: n}
			print.Show(w.h, w.x, v)
			if print.Write(w.h, w.x, v) == "" || len(print.Marked(w.h, v)) != 0 {
				t.Fatalf("%v is written as nothing", v)
			}
		}
	}
}
