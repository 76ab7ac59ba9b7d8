package print_test

import (
	"slices"
	"strconv"
	"strings"
	"testing"

	"hibernacle/api"
	"hibernacle/print"
)

// asksBig asks what is told of a value that reaches very much.
func (w *world) asksBig(v api.Val, want string, marked ...api.Val) {
	w.t.Helper()
	if w.h.Live() != w.h.Limit() {
		w.t.Fatal("not as much as there may be:", w.h.Live())
	}
	w.tells(v, want, want, marked)
}

// 18.1, P1: things that are very deep by first values.
func TestDeepFirst(t *testing.T) {
	w := newWorld(t)
	v := null
	for range api.MaxCells {
		v = w.pair(v, null)
	}
	w.asksBig(v, strings.Repeat("(", api.MaxCells)+"()"+strings.Repeat(")", api.MaxCells))
	w.set(ref(0), 0, v)
	w.asksBig(v, "#0="+strings.Repeat("(", api.MaxCells)+"#0#"+strings.Repeat(")", api.MaxCells), v)
}

// 18.1, P1: things that are very deep by second values.
func TestDeepSecond(t *testing.T) {
	w := newWorld(t)
	v := w.chain(null, slices.Repeat([]api.Val{number(7)}, api.MaxCells)...)
	list := strings.TrimSpace(strings.Repeat("7 ", api.MaxCells))
	w.asksBig(v, "("+list+")")
	w.set(w.tail(v, api.MaxCells-1), 1, v)
	w.asksBig(v, "#0=("+list+" . #0#)", v)
	last := w.tail(v, api.MaxCells-1)
	w.set(last, 1, last)
	w.asksBig(v, "("+list[:len(list)-2]+" . #0=(7 . #0#))", last)
}

// 18.1, P1: vectors, marks and both by turns, that are very deep.
func TestDeepElse(t *testing.T) {
	w := newWorld(t)
	v := null
	for range api.MaxCells {
		v = w.vector(v)
	}
	w.asksBig(v, strings.Repeat("#(", api.MaxCells)+"()"+strings.Repeat(")", api.MaxCells))
	w = newWorld(t)
	v = null
	for range api.MaxCells / 2 {
		v = w.list(w.sym("quote"), v)
	}
	w.asksBig(v, strings.Repeat("'", api.MaxCells/2)+"()")
	w = newWorld(t)
	v = null
	for range api.MaxCells / 2 {
		v = w.vector(w.pair(number(1), v))
	}
	w.asksBig(v, strings.Repeat("#((1 . ", api.MaxCells/2-1)+"#((1))"+strings.Repeat("))", api.MaxCells/2-1))
}

// 18.1, P1: each thing marked, and each within the one ahead.
func TestDeepMarked(t *testing.T) {
	w := newWorld(t)
	first := w.vector()
	all := []api.Val{first}
	for range api.MaxCells - 1 {
		all = append(all, w.vector(all[len(all)-1], all[len(all)-1]))
	}
	slices.Reverse(all)
	var begins, ends []string
	for i := range all[1:] {
		n := strconv.Itoa(i)
		begins = append(begins, "#"+n+"=#(")
		ends = append(ends, " #"+n+"#)")
	}
	slices.Reverse(ends)
	// The outermost one is come to but once.
	w.asksBig(all[0], "#("+strings.Join(begins, "")+")"+strings.Join(ends, ""), all[1:]...)
}

// 18.1, P1: things that are very wide.
func TestWide(t *testing.T) {
	w := newWorld(t)
	row := func(v api.Val) api.Val { return w.vector(slices.Repeat([]api.Val{v}, api.MaxVals)...) }
	v := row(number(5))
	text := "#(" + strings.TrimSpace(strings.Repeat("5 ", 256)) + ")"
	w.writes(v, text)
	again := strings.Repeat(" #0#", 255)
	w.writes(row(v), "#(#0="+text+again+")", v)
	var rows []api.Val
	for w.h.Live() < w.h.Limit()-1 {
		rows = append(rows, row(null))
	}
	text = "#(" + strings.TrimSpace(strings.Repeat("() ", 256)) + ")"
	wide := w.vector(rows[:256]...)
	w.asksBig(wide, "#("+strings.TrimSpace(strings.Repeat(text+" ", 256))+")")
	if got := print.All(w.h, w.x, rows); got != strings.TrimSpace(strings.Repeat(text+" ", len(rows))) {
		t.Fatal("All:", short(got))
	}
}
