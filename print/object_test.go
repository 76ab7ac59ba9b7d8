package print_test

import (
	"fmt"
	"strings"
	"testing"

	"hibernacle/api"
)

// 18.1: of a kind that no more is told of there is its word, whatever is in it.
func TestOtherKinds(t *testing.T) {
	w := newWorld(t)
	for want, v := range w.others(w.text("a"), number(1)) {
		w.writes(v, want)
		w.writes(w.pair(v, v), "("+want+" . "+want+")")
		w.writes(w.vector(v, v), "#("+want+" "+want+")")
	}
	for want, v := range w.others() {
		w.writes(v, want)
	}
	for _, k := range []api.ObjKind{api.Frame, api.Code, api.Values, api.Kont, api.Cont, api.Port, api.Alias} {
		for _, count := range []int{0, 1, api.MaxVals} {
			v := w.add(api.Obj{Kind: k, Vals: make([]api.Val, count)})
			for want, other := range w.others() {
				if o, _ := w.h.Obj(other); o.Kind == k {
					w.writes(v, want)
				}
			}
		}
	}
}

// 18.1: strings are written by layer 16's Text, and shown as their bytes, alone
// and within other things.
func TestStrings(t *testing.T) {
	all, want := "", ""
	for n := range 128 {
		escaped := string(rune(n))
		switch n {
		case '"', '\\':
			escaped = `\` + escaped
		case 10:
			escaped = `\n`
		case 9:
			escaped = `\t`
		case 13:
			escaped = `\r`
		default:
			if n < 32 || n == 127 {
				escaped = fmt.Sprintf(`\x%02x;`, n)
			}
		}
		all, want = all+string(rune(n)), want+escaped
		within(t, string(rune(n)), `"`+escaped+`"`)
		within(t, "a"+string(rune(n))+"b", `"a`+escaped+`b"`)
	}
	within(t, all, `"`+want+`"`)
	within(t, "", `""`)
	within(t, "ab", `"ab"`)
	within(t, "(a . b)", `"(a . b)"`)
	within(t, "#0=", `"#0="`)
	within(t, strings.Repeat("a", 4096), `"`+strings.Repeat("a", 4096)+`"`)
	within(t, strings.Repeat(`"`, 4096), `"`+strings.Repeat(`\"`, 4096)+`"`)
	within(t, strings.Repeat("\x00", 4096), `"`+strings.Repeat(`\x00;`, 4096)+`"`)
	// Bytes from 128 on have no escape.
	within(t, "\x80\xff\xc3\xa9", "\"\x80\xff\xc3\xa9\"")
}

// within asks what is told of a string, alone and in other things.
func within(t *testing.T, s, written string) {
	t.Helper()
	w := newWorld(t)
	v := w.text(s)
	w.asks(v, written, s)
	for _, x := range []struct {
		v     api.Val
		where string
	}{
		{w.list(v), "(%)"},
		{w.list(number(1), v, yes), "(1 % #t)"},
		{w.pair(null, v), "(() . %)"},
		{w.vector(v, w.list(v)), "#(#0=% (#0#))"},
		{w.list(w.sym("quote"), v), "'%"},
		{w.list(w.sym("unquote"), v), ",%"},
	} {
		if strings.Contains(x.where, "#0") {
			w.asks(x.v, strings.ReplaceAll(x.where, "%", written), strings.ReplaceAll(x.where, "%", s), v)
			continue
		}
		w.asks(x.v, strings.ReplaceAll(x.where, "%", written), strings.ReplaceAll(x.where, "%", s))
	}
}

// 18.1: bytes, each as a number.
func TestBytes(t *testing.T) {
	w := newWorld(t)
	w.writes(w.bytes(), "#u8()")
	w.writes(w.bytes(0), "#u8(0)")
	w.writes(w.bytes(1, 2, 3), "#u8(1 2 3)")
	w.writes(w.bytes(0, 127, 128, 255), "#u8(0 127 128 255)")
	for n := range 256 {
		w.writes(w.bytes(byte(n), 5), fmt.Sprintf("#u8(%d 5)", n))
	}
	long := w.bytes([]byte(strings.Repeat("\xff", 4096))...)
	w.writes(long, "#u8("+strings.TrimSpace(strings.Repeat("255 ", 4096))+")")
	b := w.bytes('a', 'b')
	w.writes(w.list(b), "(#u8(97 98))")
	w.writes(w.pair(null, b), "(() . #u8(97 98))")
	w.writes(w.vector(b, null), "#(#u8(97 98) ())")
	w.writes(w.list(w.sym("quote"), b), "'#u8(97 98)")
	w.writes(w.list(b, b), "(#0=#u8(97 98) #0#)", b)
}

// 18.1: vectors.
func TestVectors(t *testing.T) {
	w := newWorld(t)
	w.writes(w.vector(), "#()")
	w.writes(w.vector(number(1)), "#(1)")
	w.writes(w.vector(null), "#(())")
	w.writes(w.vector(number(1), number(-2)), "#(1 -2)")
	w.asks(w.vector(number(1), yes, char('a'), w.text("b"), w.sym("c"), null, unspec, eof, w.bytes(1), w.list(number(2)), w.vector()),
		`#(1 #t #\a "b" c () #<unspecified> #<eof> #u8(1) (2) #())`, `#(1 #t a b c () #<unspecified> #<eof> #u8(1) (2) #())`)
	w.writes(w.vector(w.vector(w.vector())), "#(#(#()))")
	w.writes(w.pair(w.vector(), w.vector(number(1))), "(#() . #(1))")
	w.writes(w.list(w.vector()), "(#())")
	w.writes(w.list(w.sym("quote"), w.vector(number(1))), "'#(1)")
	w.writes(w.vector(w.sym("quote"), w.sym("x")), "#(quote x)")
	many := make([]api.Val, 256)
	for i := range many {
		many[i] = number(i)
	}
	w.writes(w.vector(many...), "#("+strings.Trim(fmt.Sprint(upTo(256)), "[]")+")")
}

// upTo is the numbers from 0 on.
func upTo(n int) []int {
	list := make([]int, n)
	for i := range list {
		list[i] = i
	}
	return list
}

// 18.1: lists, and chains with an end that isn't Nil.
func TestChains(t *testing.T) {
	w := newWorld(t)
	one, two, three := number(1), number(2), number(3)
	w.writes(w.list(one), "(1)")
	w.writes(w.list(one, two, three), "(1 2 3)")
	w.writes(w.list(null), "(())")
	w.writes(w.list(null, null), "(() ())")
	w.writes(w.list(w.list(one), w.list(w.list(two), three)), "((1) ((2) 3))")
	w.writes(w.pair(w.list(one), w.list(two)), "((1) 2)")
	w.writes(w.pair(one, api.Val{K: api.Nil, N: 5}), "(1)")
	for want, end := range map[string]api.Val{
		"3": three, "#t": yes, "#f": no, "a": w.sym("a"), "#<unspecified>": unspec, "#<eof>": eof, "#<procedure 3>": {K: api.Prim, N: 3},
		"#<symbol>": {K: api.Sym, N: 99}, "#()": w.vector(), "#(1 2)": w.vector(one, two), "#u8(9)": w.bytes(9), "#u8()": w.bytes(), "#<box>": w.box(one),
	} {
		w.writes(w.pair(one, end), "(1 . "+want+")")
		w.writes(w.chain(end, one, two), "(1 2 . "+want+")")
		w.writes(w.vector(w.chain(end, null)), "#((() . "+want+"))")
	}
	w.asks(w.pair(one, w.text("a b")), `(1 . "a b")`, "(1 . a b)")
	w.asks(w.pair(one, char('a')), `(1 . #\a)`, "(1 . a)")
}

// 18.1: chains that go round.
func TestRings(t *testing.T) {
	for count := 1; count < 6; count++ {
		for back := range count {
			w := newWorld(t)
			var vals []api.Val
			var words []string
			for i := range count {
				vals, words = append(vals, number(i)), append(words, fmt.Sprint(i))
			}
			first := w.list(vals...)
			again := w.tail(first, back)
			w.set(w.tail(first, count-1), 1, again)
			round := "#0=(" + strings.Join(words[back:], " ") + " . #0#)"
			want := round
			if back > 0 {
				want = "(" + strings.Join(words[:back], " ") + " . " + round + ")"
			}
			w.writes(first, want, again)
			w.writes(w.tail(first, count-1), w.ringFrom(words, back), w.tail(first, count-1))
			w.writes(w.vector(first, again), "#("+want+" #0#)", again)
			w.writes(w.pair(again, first), w.againAhead(words, round, back), again)
		}
	}
}

// ringFrom is a ring that goes back to a place, from its last pair on.
func (w *world) ringFrom(words []string, back int) string {
	last := len(words) - 1
	return "#0=(" + strings.Join(append([]string{words[last]}, words[back:last]...), " ") + " . #0#)"
}

// againAhead is a chain whose end is a ring that stands ahead of it.
func (w *world) againAhead(words []string, round string, back int) string {
	if back == 0 {
		return "(" + round + " . #0#)"
	}
	return "(" + round + " " + strings.Join(words[:back], " ") + " . #0#)"
}

// 18.1: a chain stops at a marked pair, wherever that is written first.
func TestMarkedEnds(t *testing.T) {
	w := newWorld(t)
	tail := w.list(number(2), number(3))
	list := w.pair(number(1), tail)
	w.writes(w.pair(tail, list), "(#0=(2 3) 1 . #0#)", tail)
	w.writes(w.pair(list, tail), "((1 . #0=(2 3)) . #0#)", tail)
	w.writes(w.pair(tail, tail), "(#0=(2 3) . #0#)", tail)
	w.writes(w.pair(list, list), "(#0=(1 2 3) . #0#)", list)
	w.writes(w.list(list, tail), "((1 . #0=(2 3)) #0#)", tail)
	w.writes(w.vector(list, w.tail(list, 2)), "#((1 2 . #0=(3)) #0#)", w.tail(list, 2))
	w.writes(w.vector(list, tail, list), "#(#0=(1 . #1=(2 3)) #1# #0#)", list, tail)
	item := w.list(number(5))
	w.writes(w.pair(item, w.pair(number(1), item)), "(#0=(5) 1 . #0#)", item)
	text := w.text("a")
	w.asks(w.pair(text, text), `(#0="a" . #0#)`, "(#0=a . #0#)", text)
	v := w.vector(number(1))
	w.writes(w.chain(v, v, number(2)), "(#0=#(1) 2 . #0#)", v)
}
