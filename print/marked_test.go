package print_test

import (
	"fmt"
	"slices"
	"strings"
	"testing"

	"hibernacle/api"
	"hibernacle/print"
)

// 18.1: marked are the pairs, vectors, strings and bytes that are come to twice:
// by two values of one thing, by two things, by itself; also such as are empty.
func TestMarkedKinds(t *testing.T) {
	w := newWorld(t)
	for _, x := range []struct {
		v              api.Val
		written, shown string
	}{
		{w.pair(null, number(1)), "(() . 1)", "(() . 1)"}, {w.list(number(1), number(2)), "(1 2)", "(1 2)"},
		{w.vector(), "#()", "#()"}, {w.vector(number(1)), "#(1)", "#(1)"},
		{w.text(""), `""`, ""}, {w.text("ab"), `"ab"`, "ab"},
		{w.bytes(), "#u8()", "#u8()"}, {w.bytes(1, 2), "#u8(1 2)", "#u8(1 2)"},
		{w.list(w.sym("quote"), null), "'()", "'()"},
	} {
		for where, v := range map[string]api.Val{
			"(#0=% . #0#)":            w.pair(x.v, x.v),
			"(#0=% #0#)":              w.list(x.v, x.v),
			"#(#0=% #0#)":             w.vector(x.v, x.v),
			"#(1 #0=% 2 #0# #0# #0#)": w.vector(number(1), x.v, number(2), x.v, x.v, x.v),
			"(#(#0=%) (#0#))":         w.list(w.vector(x.v), w.list(x.v)),
			"(((#0=%)) . #0#)":        w.pair(w.list(w.list(x.v)), x.v),
			"'(#0=% #0#)":             w.list(w.sym("quote"), w.list(x.v, x.v)),
		} {
			w.asks(v, strings.Replace(where, "%", x.written, 1), strings.Replace(where, "%", x.shown, 1), x.v)
		}
		w.asks(x.v, x.written, x.shown)
		w.asks(w.list(x.v, null), "("+x.written+" ())", "("+x.shown+" ())")
	}
	round := w.vector(null, number(1))
	w.set(round, 0, round)
	w.writes(round, "#0=#(#0# 1)", round)
	w.writes(w.vector(round), "#(#0=#(#0# 1))", round)
	first := w.pair(null, null)
	w.set(first, 0, first)
	w.writes(first, "#0=(#0#)", first)
	w.set(first, 1, first)
	w.writes(first, "#0=(#0# . #0#)", first)
}

// 18.1: two things that are alike aren't one.
func TestAlikeIsNotOne(t *testing.T) {
	w := newWorld(t)
	for want, v := range map[string]api.Val{
		"((1) (1))":         w.list(w.list(number(1)), w.list(number(1))),
		"(#() #())":         w.list(w.vector(), w.vector()),
		"(#u8(1) . #u8(1))": w.pair(w.bytes(1), w.bytes(1)),
		"('x 'x)":           w.list(w.list(w.sym("quote"), w.sym("x")), w.list(w.sym("quote"), w.sym("x"))),
	} {
		w.writes(v, want)
	}
	w.asks(w.list(w.text("a"), w.text("a")), `("a" "a")`, "(a a)")
}

// 18.1: of no other kind is anything marked, nor what is come to by those alone.
func TestNotMarked(t *testing.T) {
	w := newWorld(t)
	item := w.list(number(1))
	for want, v := range w.others(item, item) {
		w.writes(w.vector(v, v, item), "#("+want+" "+want+" (1))")
		w.writes(w.list(v, v), "("+want+" "+want+")")
		w.writes(v, want)
		ring := w.pair(v, null)
		w.set(v, 0, ring)
		w.writes(ring, "("+want+")")
		w.set(v, 0, v)
		w.writes(w.pair(v, v), "("+want+" . "+want+")")
	}
	for _, v := range []api.Val{null, yes, no, number(1), char('a'), w.sym("a"), {K: api.Prim, N: 1}, unspec, eof} {
		text := print.Write(w.h, w.x, v)
		w.asks(w.vector(v, v), "#("+text+" "+text+")", "#("+strings.Repeat(" "+print.Show(w.h, w.x, v), 2)[1:]+")")
	}
}

// 18.1: what lies in a box isn't come to, as it isn't written: nor is it fetched.
func TestNotComeTo(t *testing.T) {
	w := newWorld(t)
	away, e := w.h.Away(7)
	if e != api.OK {
		t.Fatal(e)
	}
	w.h.Fetch(func(n int) (api.Obj, api.Errno) {
		t.Errorf("%d is fetched", n)
		return api.Obj{}, api.ErrDown
	})
	for want, v := range w.others(away, away) {
		if got := print.Write(w.h, w.x, w.list(v, v)); got != "("+want+" "+want+")" {
			t.Fatal(got)
		}
		print.Show(w.h, w.x, v)
		print.Marked(w.h, w.vector(v, v))
	}
}

// 18.1: n counts from 0 on as the marked are first written, and not as they are
// come to again.
func TestOrder(t *testing.T) {
	w := newWorld(t)
	a, b, c := w.vector(number(1)), w.vector(number(2)), w.vector(number(3))
	w.writes(w.list(a, b, c, a, b, c), "(#0=#(1) #1=#(2) #2=#(3) #0# #1# #2#)", a, b, c)
	w.writes(w.list(a, b, c, c, b, a), "(#0=#(1) #1=#(2) #2=#(3) #2# #1# #0#)", a, b, c)
	w.writes(w.list(c, a, c, b, b, a), "(#0=#(3) #1=#(1) #0# #2=#(2) #2# #1#)", c, a, b)
	w.writes(w.list(a, b, c, c, b), "(#(1) #0=#(2) #1=#(3) #1# #0#)", b, c)
	w.writes(w.list(a, b, b, c), "(#(1) #0=#(2) #0# #(3))", b)
	w.writes(w.pair(w.list(b, a), w.list(a, b)), "((#0=#(2) #1=#(1)) #1# #0#)", b, a)
	// The outer one is written first.
	outer := w.vector(a, a, b)
	w.writes(w.list(outer, b, outer), "(#0=#(#1=#(1) #1# #2=#(2)) #2# #0#)", outer, a, b)
	w.writes(w.list(b, outer, outer), "(#0=#(2) #1=#(#2=#(1) #2# #0#) #1#)", b, outer, a)
	// Deep things come ahead of what follows.
	deep := w.list(w.list(w.list(a)))
	w.writes(w.vector(deep, b, b, a), "#((((#0=#(1)))) #1=#(2) #1# #0#)", a, b)
	// Pairs of one chain.
	list := w.list(number(1), number(2), number(3))
	two, three := w.tail(list, 1), w.tail(list, 2)
	w.writes(w.vector(list, three, two), "#((1 . #0=(2 . #1=(3))) #1# #0#)", two, three)
	w.writes(w.vector(three, two, list), "#(#0=(3) #1=(2 . #0#) (1 . #1#))", three, two)
}

// 18.1: more marked things than labels of three digits.
func TestManyLabels(t *testing.T) {
	w := newWorld(t)
	var vals, twice []api.Val
	var want strings.Builder
	for i := range 1200 {
		vals = append(vals, w.bytes())
		fmt.Fprintf(&want, "#%d=#u8() ", i)
	}
	for i := range vals {
		fmt.Fprintf(&want, "#%d# ", i)
	}
	twice = slices.Concat(vals, vals)
	w.writes(w.list(twice...), "("+strings.TrimSpace(want.String())+")", vals...)
}

// 18.1: All writes each value by itself, with a blank between.
func TestAll(t *testing.T) {
	w := newWorld(t)
	text := w.text("a b")
	shared := w.list(text, text)
	round := w.pair(number(1), null)
	w.set(round, 1, round)
	was := w.state()
	for _, x := range []struct {
		want string
		vals []api.Val
	}{
		{"", nil},
		{"", []api.Val{}},
		{"1", []api.Val{number(1)}},
		{"()", []api.Val{null}},
		{"() ()", []api.Val{null, null}},
		{`1 #\a "a b" #t`, []api.Val{number(1), char('a'), text, yes}},
		{`"a b" "a b"`, []api.Val{text, text}},
		{`(#0="a b" #0#) (#0="a b" #0#) "a b"`, []api.Val{shared, shared, text}},
		{`#0=(1 . #0#) #0=(1 . #0#) (#0="a b" #0#)`, []api.Val{round, round, shared}},
		{"#<gone> 1 #<gone>", []api.Val{ref(-1), number(1), ref(99)}},
		{" 1 ", []api.Val{{K: -1}, number(1), {K: api.Kinds}}},
	} {
		given := slices.Clone(x.vals)
		if got := print.All(w.h, w.x, x.vals); got != x.want {
			t.Fatalf("All(%v): %s, not %s", x.vals, got, x.want)
		}
		if !slices.Equal(given, x.vals) || w.state() != was {
			t.Fatalf("All(%v) has changed something", given)
		}
		var each []string
		for _, v := range x.vals {
			each = append(each, print.Write(w.h, w.x, v))
		}
		if strings.Join(each, " ") != x.want {
			t.Fatalf("Write of each of %v: %q", x.vals, each)
		}
	}
	many := make([]api.Val, api.MaxList)
	if got := print.All(w.h, w.x, many); got != strings.TrimSpace(strings.Repeat("() ", api.MaxList)) {
		t.Fatal("All of many:", len(got))
	}
}

// What Marked tells is new memory, and nothing is kept from call to call.
func TestNothingIsKept(t *testing.T) {
	w := newWorld(t)
	a, b := w.vector(), w.text("x")
	v := w.vector(a, b, a, b)
	first, second := print.Marked(w.h, v), print.Marked(w.h, v)
	first[0] = eof
	_ = append(first[:1], eof)
	if third := print.Marked(w.h, v); !slices.Equal(second, []api.Val{a, b}) || !slices.Equal(third, second) {
		t.Fatal("another answer has changed:", second, third)
	}
	w.asks(v, `#(#0=#() #1="x" #0# #1#)`, "#(#0=#() #1=x #0# #1#)", a, b)
	w.set(v, 2, null)
	w.asks(v, `#(#() #0="x" () #0#)`, "#(#() #0=x () #0#)", b)
	if e := w.h.SetByte(b, 0, 'y'); e != api.OK {
		t.Fatal(e)
	}
	w.asks(v, `#(#() #0="y" () #0#)`, "#(#() #0=y () #0#)", b)
	w.set(v, 3, null)
	w.asks(v, `#(#() "y" () ())`, "#(#() y () ())")
}
