package print_test

import (
	"fmt"
	"slices"
	"strings"
	"testing"

	"hibernacle/api"
	"hibernacle/heap"
	"hibernacle/print"
	"hibernacle/sym"
)

var (
	null   = api.Val{}
	yes    = api.Val{K: api.Bool, N: 1}
	no     = api.Val{K: api.Bool}
	unspec = api.Val{K: api.Unspec}
	eof    = api.Val{K: api.Eof}
)

func ref(place int) api.Val { return api.Val{K: api.Ref, N: place} }

func number(n int) api.Val { return api.Val{K: api.Int, N: n} }

func char(c rune) api.Val { return api.Val{K: api.Char, N: int(c)} }

// world is a memory and a table.
type world struct {
	t *testing.T
	h *heap.Heap
	x *sym.Table
}

// newWorld has room for all objects that there may be, and no object and no
// name.
func newWorld(t *testing.T) *world {
	t.Helper()
	h, e := heap.New(api.MaxCells)
	if e != api.OK {
		t.Fatalf("New: %d", e)
	}
	return &world{t, h, sym.New()}
}

func (w *world) add(o api.Obj) api.Val {
	w.t.Helper()
	v, e := w.h.Add(o)
	if e != api.OK {
		w.t.Fatalf("Add(%v): %d", o, e)
	}
	return v
}

// set has the value i of an object be x.
func (w *world) set(v api.Val, i int, x api.Val) {
	w.t.Helper()
	if e := w.h.Set(v, i, x); e != api.OK {
		w.t.Fatalf("Set(%v, %d, %v): %d", v, i, x, e)
	}
}

func (w *world) pair(a, b api.Val) api.Val {
	w.t.Helper()
	return w.add(api.Obj{Kind: api.Pair, Vals: []api.Val{a, b}})
}

// chain is new pairs of some values, the last of which ends with another one.
func (w *world) chain(end api.Val, vals ...api.Val) api.Val {
	w.t.Helper()
	for _, v := range slices.Backward(vals) {
		end = w.pair(v, end)
	}
	return end
}

func (w *world) list(vals ...api.Val) api.Val {
	w.t.Helper()
	return w.chain(null, vals...)
}

// tail is what a chain goes on with behind n pairs.
func (w *world) tail(v api.Val, n int) api.Val {
	w.t.Helper()
	for range n {
		next, e := w.h.At(v, 1)
		if e != api.OK {
			w.t.Fatalf("At(%v, 1): %d", v, e)
		}
		v = next
	}
	return v
}

func (w *world) vector(vals ...api.Val) api.Val {
	w.t.Helper()
	return w.add(api.Obj{Kind: api.Vector, Vals: vals})
}

func (w *world) text(s string) api.Val {
	w.t.Helper()
	return w.add(api.Obj{Kind: api.String, Bytes: []byte(s)})
}

func (w *world) bytes(b ...byte) api.Val {
	w.t.Helper()
	return w.add(api.Obj{Kind: api.Bytes, Bytes: b})
}

func (w *world) box(v api.Val) api.Val {
	w.t.Helper()
	return w.add(api.Obj{Kind: api.Box, Vals: []api.Val{v}})
}

func (w *world) sym(name string) api.Val {
	w.t.Helper()
	i, e := w.x.Number(name)
	if e != api.OK {
		w.t.Fatalf("Number(%q): %d", name, e)
	}
	return api.Val{K: api.Sym, N: i}
}

// others are new objects of all kinds that no more than their word is told of,
// each with some values, by these words.
func (w *world) others(vals ...api.Val) map[string]api.Val {
	w.t.Helper()
	all := map[string]api.Val{}
	for k, word := range map[api.ObjKind]string{
		api.Box: "#<box>", api.Closure: "#<closure>", api.Frame: "#<frame>", api.Code: "#<code>", api.Error: "#<error>",
		api.Values: "#<values>", api.Kont: "#<kont>", api.Cont: "#<continuation>", api.Port: "#<port>", api.Alias: "#<alias>",
	} {
		count := 2
		if k == api.Box {
			count = 1
		}
		all[word] = w.add(api.Obj{Kind: k, Vals: append(slices.Clone(vals), null, null)[:count]})
	}
	return all
}

// state is all that memory and table tell without anything being fetched.
func (w *world) state() string {
	var b strings.Builder
	fmt.Fprintln(&b, w.h.Live(), w.h.Limit(), w.x.Len())
	for v := range w.h.All() {
		fmt.Fprintln(&b, v, w.h.IsAway(v), w.h.Number(v), w.h.Changed(v))
		if !w.h.IsAway(v) {
			o, e := w.h.Obj(v)
			fmt.Fprintln(&b, o.Kind, o.Vals, o.Bytes, e)
		}
	}
	for i := range w.x.Len() {
		fmt.Fprintln(&b, w.x.Name(i))
	}
	return b.String()
}

// away is a copy of a world, all objects of which are away that can be fetched
// again: those that refer to what was dropped can't. (What may be in memory may
// refer to such ones.)
func (w *world) away() *world {
	w.t.Helper()
	other := &world{w.t, w.h.Clone(), w.x.Copy()}
	was := map[int]api.Obj{}
	for v := range other.h.All() {
		o, e := other.h.Obj(v)
		if e != api.OK || slices.ContainsFunc(o.Vals, func(x api.Val) bool { return x.K == api.Ref && !other.h.Has(x) }) {
			continue
		}
		n := v.N + 1
		was[n] = o
		if e := other.h.Keep(v, n); e != api.OK || !other.h.Send(v) {
			w.t.Fatalf("Keep(%v): %d; it isn't away", v, e)
		}
	}
	other.h.Fetch(func(n int) (api.Obj, api.Errno) { return was[n], api.OK })
	return other
}

// asks asks what is told of a value by each call, as memory is, and where all is
// away that can be; and that nothing is changed.
func (w *world) asks(v api.Val, written, shown string, marked ...api.Val) {
	w.t.Helper()
	was := w.state()
	w.tells(v, written, shown, marked)
	if now := w.state(); now != was {
		w.t.Fatalf("%s: something has changed: %s, not %s", short(written), now, was)
	}
	w.away().tells(v, written, shown, marked)
}

// tells asks what is told of a value by each call.
func (w *world) tells(v api.Val, written, shown string, marked []api.Val) {
	w.t.Helper()
	if got := print.Write(w.h, w.x, v); got != written {
		w.t.Fatalf("Write: %s, not %s", short(got), short(written))
	}
	if got := print.Show(w.h, w.x, v); got != shown {
		w.t.Fatalf("Show: %s, not %s", short(got), short(shown))
	}
	if got := print.Marked(w.h, v); !slices.Equal(got, marked) {
		w.t.Fatalf("%s: Marked: %v, not %v", short(written), got, marked)
	}
	if got := print.All(w.h, w.x, []api.Val{v}); got != written {
		w.t.Fatalf("All: %s, not %s", short(got), short(written))
	}
	if got := print.All(w.h, w.x, []api.Val{v, null, v}); got != written+" () "+written {
		w.t.Fatalf("All: %s, not %s twice", short(got), short(written))
	}
}

// writes asks what is told of a value that is shown as it is written.
func (w *world) writes(v api.Val, written string, marked ...api.Val) {
	w.t.Helper()
	w.asks(v, written, written, marked...)
}

// short is the beginning of a long text.
func short(s string) string {
	if len(s) > 500 {
		return s[:500] + ".."
	}
	return s
}
