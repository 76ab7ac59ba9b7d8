package print_test

import (
	"testing"

	"hibernacle/api"
	"hibernacle/print"
)

// lost are the ways in which an object that is away can't be fetched.
func lost() map[string]func(n int) (api.Obj, api.Errno) {
	pair := func(vals ...api.Val) api.Obj { return api.Obj{Kind: api.Pair, Vals: vals} }
	return map[string]func(n int) (api.Obj, api.Errno){
		"by nothing":           nil,
		"by an error":          func(n int) (api.Obj, api.Errno) { return pair(number(1), null), api.ErrDown },
		"there is none":        func(n int) (api.Obj, api.Errno) { return api.Obj{}, api.ErrNone },
		"what may not be":      func(n int) (api.Obj, api.Errno) { return pair(number(1), ref(-1)), api.OK },
		"a pair of three":      func(n int) (api.Obj, api.Errno) { return pair(number(1), null, null), api.OK },
		"something of no kind": func(n int) (api.Obj, api.Errno) { return api.Obj{Kind: api.ObjKinds}, api.OK },
	}
}

// 18.1: what is away and can't be fetched is gone, wherever it stands, and it is
// never marked; what can be fetched is written as it is.
func TestAway(t *testing.T) {
	for what, by := range lost() {
		w := newWorld(t)
		away, e := w.h.Away(7)
		if e != api.OK {
			t.Fatal(e)
		}
		quote := w.sym("quote")
		for _, x := range []struct {
			lost, there string
			v           api.Val
		}{
			{"#<gone>", "(7)", away},
			{"(#<gone> . #<gone>)", "(#0=(7) . #0#)", w.pair(away, away)},
			{"#(#<gone> 1 #<gone>)", "#(#0=(7) 1 #0#)", w.vector(away, number(1), away)},
			{"(1 . #<gone>)", "(1 7)", w.pair(number(1), away)},
			{"'#<gone>", "'(7)", w.list(quote, away)},
			{"(quote . #<gone>)", "'7", w.pair(quote, away)},
			{"(quote 1 . #<gone>)", "(quote 1 7)", w.chain(away, quote, number(1))},
			{"#<box>", "#<box>", w.box(away)},
		} {
			w.h.Fetch(by)
			was := w.state()
			for range 2 {
				if a, b, c := print.Write(w.h, w.x, x.v), print.Show(w.h, w.x, x.v), print.All(w.h, w.x, []api.Val{x.v}); a != x.lost || b != a || c != a {
					t.Fatalf("%s: %s, %s, %s, not %s", what, a, b, c, x.lost)
				}
			}
			if got := print.Marked(w.h, x.v); len(got) != 0 || w.state() != was {
				t.Fatalf("%s: %s: Marked: %v; %s, not %s", what, x.lost, got, w.state(), was)
			}
			w.h.Fetch(func(n int) (api.Obj, api.Errno) {
				return api.Obj{Kind: api.Pair, Vals: []api.Val{number(n), null}}, api.OK
			})
			if a, b := print.Write(w.h, w.x, x.v), print.Show(w.h, w.x, x.v); a != x.there || b != a {
				t.Fatalf("fetched: %s, %s, not %s", a, b, x.there)
			}
			if x.lost != "#<box>" && w.h.IsAway(away) || !w.h.Send(away) && !w.h.IsAway(away) {
				t.Fatal("it isn't fetched, or can't be sent away again")
			}
		}
	}
}

// 18.1: an object that is away is fetched by each of the calls.
func TestFetched(t *testing.T) {
	for what, call := range map[string]func(w *world, v api.Val){
		"Write":  func(w *world, v api.Val) { print.Write(w.h, w.x, v) },
		"Show":   func(w *world, v api.Val) { print.Show(w.h, w.x, v) },
		"All":    func(w *world, v api.Val) { print.All(w.h, w.x, []api.Val{v}) },
		"Marked": func(w *world, v api.Val) { print.Marked(w.h, v) },
	} {
		w := newWorld(t)
		text := w.text("a")
		v := w.list(text, w.vector(text), w.box(text))
		other := w.away()
		call(other, v)
		for x := range other.h.All() {
			if other.h.IsAway(x) {
				t.Fatalf("%s: %v isn't fetched", what, x)
			}
		}
	}
}

// 18.1: what comes when something is fetched may refer to what is away in turn.
func TestFetchedOneByOne(t *testing.T) {
	w := newWorld(t)
	first, e := w.h.Away(1)
	if e != api.OK {
		t.Fatal(e)
	}
	w.h.Fetch(func(n int) (api.Obj, api.Errno) {
		next, e := w.h.Away(n%500 + 1)
		return api.Obj{Kind: api.Vector, Vals: []api.Val{number(n), next}}, e
	})
	want, end := "", ""
	for n := 1; n <= 500; n++ {
		want, end = want+"#("+print.Write(nil, nil, number(n))+" ", end+")"
	}
	if got := print.Write(w.h, w.x, first); got != "#0="+want+"#0#"+end {
		t.Fatal(short(got))
	}
	if got := print.Marked(w.h, first); len(got) != 1 || got[0] != first {
		t.Fatal("Marked:", got)
	}
}

// P1: a call ends, also where what couldn't be fetched at first can be later.
func TestFetchedLater(t *testing.T) {
	w := newWorld(t)
	away, e := w.h.Away(1)
	if e != api.OK {
		t.Fatal(e)
	}
	for refusals := range 8 {
		v := w.vector(away, away, away)
		left := refusals
		w.h.Fetch(func(n int) (api.Obj, api.Errno) {
			if left--; left >= 0 {
				return api.Obj{}, api.ErrFull
			}
			return api.Obj{Kind: api.Pair, Vals: []api.Val{away, away}}, api.OK
		})
		for range 10 {
			print.Write(w.h, w.x, v)
			print.Show(w.h, w.x, v)
			print.Marked(w.h, v)
		}
		if got := print.Write(w.h, w.x, v); got != "#(#0=(#0# . #0#) #0# #0#)" {
			t.Fatal(got)
		}
		w.h.Send(away)
	}
}
