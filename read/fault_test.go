package read_test

import (
	"strings"
	"testing"

	"hibernacle/api"
	"hibernacle/heap"
	"hibernacle/read"
	"hibernacle/sym"
)

// 17.1, 17.2: a nil memory, a nil table, and both, whatever the text is.
func TestNil(t *testing.T) {
	for _, s := range []string{"", " ", "a", "(a)", "a b", "#;a", ")", "(", "]", "#0#", "\xff", strings.Repeat("a", 5000)} {
		w := newWorld(t, 10)
		was := w.state()
		for _, row := range []struct {
			h *heap.Heap
			x *sym.Table
		}{{nil, nil}, {w.h, nil}, {nil, w.x}} {
			if vals, place, e := read.All(row.h, row.x, s); len(vals) > 0 || place != 0 || e != api.ErrArg {
				t.Fatalf("All(%q): %v, %d, %d", s, vals, place, e)
			}
			if v, place, e := read.One(row.h, row.x, s); v != (api.Val{}) || place != 0 || e != api.ErrArg {
				t.Fatalf("One(%q): %v, %d, %d", s, v, place, e)
			}
		}
		if w.state() != was {
			t.Fatalf("%q has changed something", s)
		}
	}
}

// 17.1: each of layer 16's faults, ahead of each of the grammar's, wherever they
// stand.
func TestWordsFirst(t *testing.T) {
	words := []struct {
		s     string
		place int
		e     api.Errno
	}{
		{`"ab`, 0, api.ErrEnd},
		{"#| |", 0, api.ErrEnd},
		{strings.Repeat("a", 33), 0, api.ErrLong},
		{"9223372036854775808", 0, api.ErrRange},
		{"#x-8000000000000001", 0, api.ErrRange},
		{"]", 0, api.ErrForm},
		{"a\x80", 1, api.ErrForm},
		{`"a\q"`, 2, api.ErrForm},
		{"1a", 0, api.ErrForm},
		{`"a"b`, 3, api.ErrForm},
		{"#1000=a", 0, api.ErrForm},
		{"#tr", 0, api.ErrForm},
	}
	for _, r := range words {
		fails(t, r.s, r.place, r.e)
		for _, ahead := range []string{") ", ". ", "( . ", "(a . ) ", "#u8(256 ", "#u8(a) ", "#0=#0# ", "#0# ", "#0=a #0=b ", strings.Repeat("(", 65) + " ", "#(" + strings.Repeat("1 ", 257), "( ", "'", "#;", "#0="} {
			fails(t, ahead+r.s, len(ahead)+r.place, r.e)
		}
	}
	fails(t, ") "+strings.Repeat(" ", 4095), 0, api.ErrLong)
	fails(t, strings.Repeat(" ", 4096)+"a", 0, api.ErrLong)
	reads(t, strings.Repeat(" ", 4095)+"a", 1, "a")
	fails(t, strings.Repeat(" ", 4095)+")", 4095, api.ErrForm)
	ends(t, strings.Repeat(" ", 4095)+"(")
}

// 17.1: of several faults the first one by its token is told.
func TestFirstFault(t *testing.T) {
	list := []struct {
		s     string
		place int
		e     api.Errno
	}{
		{"#;) ", 2, api.ErrForm},
		{"'. ", 1, api.ErrForm},
		{"(a . ) ", 5, api.ErrForm},
		{"#u8(256) ", 4, api.ErrForm},
		{"#7=#7# ", 3, api.ErrForm},
		{"#8# ", 0, api.ErrNone},
		{"(#5=a #5=b) ", 6, api.ErrTwice},
		{"#(" + strings.Repeat("1 ", 257) + ") ", 514, api.ErrLong},
	}
	for _, first := range list {
		fails(t, strings.Repeat("'", 65)+first.s, 64, api.ErrLong)
		fails(t, first.s, first.place, first.e)
		fails(t, "(a "+first.s, 3+first.place, first.e)
		fails(t, "b #;"+first.s, 4+first.place, first.e)
		fails(t, "#;(a) 'a "+first.s, 9+first.place, first.e)
		for _, second := range list {
			fails(t, first.s+second.s, first.place, first.e)
			fails(t, first.s+"( "+second.s, first.place, first.e)
		}
	}
}

// 17.1: the place of a fault is that of its token, and of what lacks the text's
// length, whatever blanks and remarks stand behind.
func TestPlaces(t *testing.T) {
	fails(t, " \n ) ", 3, api.ErrForm)
	fails(t, "#||# ;a\n )", 9, api.ErrForm)
	fails(t, "(a ; )\n . )", 10, api.ErrForm)
	fails(t, `("a b" . )`, 9, api.ErrForm)
	fails(t, "#u8( #xff #x100)", 10, api.ErrForm)
	fails(t, "a  #00# ", 3, api.ErrNone)
	fails(t, "#0=a  #00=b ", 6, api.ErrTwice)
	ends(t, "( ")
	ends(t, "(a ; )")
	ends(t, "(a #| ) |# ")
	ends(t, "'\n\n")
	ends(t, "#0= ; a")
	ends(t, "#; #||#")
}
