package read_test

import (
	"fmt"
	"slices"
	"strings"
	"testing"

	"hibernacle/api"
	"hibernacle/heap"
	"hibernacle/read"
	"hibernacle/sym"
)

func ref(place int) api.Val { return api.Val{K: api.Ref, N: place} }

// world is a memory and a table that a text is read into.
type world struct {
	t *testing.T
	h *heap.Heap
	x *sym.Table
}

// newWorld has three objects, one of them away, and a bare place ahead of them if
// there is to be room for some more; and a name that no test's text has.
func newWorld(t *testing.T, room int) *world {
	t.Helper()
	h, e := heap.New(3 + room)
	if e != api.OK {
		t.Fatalf("New(%d): %d", 3+room, e)
	}
	h.Fetch(func(n int) (api.Obj, api.Errno) {
		t.Errorf("%d is fetched", n)
		return api.Obj{}, api.ErrDown
	})
	for i := range min(3+room, 4) {
		h.Add(api.Obj{Kind: api.Pair, Vals: []api.Val{{K: api.Int, N: i}, {}}})
	}
	if room > 0 {
		h.Drop(ref(0))
	}
	h.Keep(ref(1), 7)
	x := sym.New()
	x.Number("was-there")
	if !h.Send(ref(1)) || h.Live() != 3 {
		t.Fatalf("a world with %d objects", h.Live())
	}
	return &world{t, h, x}
}

// state is all that memory and table tell without anything being fetched.
func (w *world) state() string {
	var b strings.Builder
	for v := range w.h.All() {
		fmt.Fprintln(&b, v, w.object(v))
	}
	for i := range w.x.Len() {
		fmt.Fprintln(&b, w.x.Name(i))
	}
	return b.String()
}

// object is one object as a text.
func (w *world) object(v api.Val) string {
	if w.h.IsAway(v) {
		return fmt.Sprint("away ", w.h.Number(v))
	}
	o, e := w.h.Obj(v)
	return fmt.Sprint(o, e, w.h.Number(v), w.h.Changed(v))
}

// objects are all objects that there are, as texts.
func (w *world) objects() map[api.Val]string {
	all := map[api.Val]string{}
	for v := range w.h.All() {
		all[v] = w.object(v)
	}
	return all
}

// keeps asks that all objects that there were are there as they were.
func (w *world) keeps(what string, was map[api.Val]string) {
	w.t.Helper()
	for v, o := range was {
		if now := w.object(v); !w.h.Has(v) || now != o {
			w.t.Fatalf("%s: what was there has changed: %v: %s, not %s", what, v, now, o)
		}
	}
}

// sketcher writes values down: an object as `n(a b)` (a pair), `n[a b]` (a
// vector), `n"ab"` (a string), `n<1 2>` (bytes), n counting them from 0 on as
// they are come to; one that was come to ahead as `@n`.
type sketcher struct {
	w    *world
	seen map[api.Val]int
	b    strings.Builder
}

// sketch is values, as they are in a world, and how many objects there are in
// them.
func (w *world) sketch(vals []api.Val) (string, int) {
	k := &sketcher{w: w, seen: map[api.Val]int{}}
	k.row(vals)
	return k.b.String(), len(k.seen)
}

func (k *sketcher) row(vals []api.Val) {
	for i, v := range vals {
		if i > 0 {
			k.b.WriteByte(' ')
		}
		k.value(v)
	}
}

func (k *sketcher) value(v api.Val) {
	switch {
	case v == api.Val{}:
		k.b.WriteString("()")
	case v.K == api.Int:
		fmt.Fprint(&k.b, v.N)
	case v.K == api.Bool && v.N == 1:
		k.b.WriteString("#t")
	case v.K == api.Bool && v.N == 0:
		k.b.WriteString("#f")
	case v.K == api.Char:
		fmt.Fprintf(&k.b, "#%d", v.N)
	case v.K == api.Sym && v.N < k.w.x.Len():
		k.b.WriteString(k.w.x.Name(v.N))
	case k.w.h.Has(v):
		k.object(v)
	default:
		k.w.t.Fatalf("no value of a text: %v", v)
	}
}

func (k *sketcher) object(v api.Val) {
	if i, was := k.seen[v]; was {
		fmt.Fprint(&k.b, "@", i)
		return
	}
	fmt.Fprint(&k.b, len(k.seen))
	k.seen[v] = len(k.seen)
	o, _ := k.w.h.Obj(v)
	switch o.Kind {
	case api.Pair:
		k.b.WriteByte('(')
		k.row(o.Vals)
		k.b.WriteByte(')')
	case api.Vector:
		k.b.WriteByte('[')
		k.row(o.Vals)
		k.b.WriteByte(']')
	case api.String:
		fmt.Fprintf(&k.b, "%q", o.Bytes)
	case api.Bytes:
		k.b.WriteString("<" + strings.Trim(fmt.Sprint(o.Bytes), "[]") + ">")
	default:
		k.w.t.Fatalf("no object of a text: %v", o)
	}
}

// reads asks that a text has just those data that are sketched, in each world
// with room for them, and that they don't fit where there is less room.
func reads(t *testing.T, s string, count int, want string) {
	t.Helper()
	n, place, e := read.Count(s)
	if place != len(s) || e != api.OK {
		t.Fatalf("Count(%q): %d, %d, %d", s, n, place, e)
	}
	for _, room := range []int{n, n + 5} {
		w := newWorld(t, room)
		was := w.objects()
		vals, place, e := read.All(w.h, w.x, s)
		if place != len(s) || e != api.OK {
			t.Fatalf("All(%q): %v, %d, %d", s, vals, place, e)
		}
		got, made := w.sketch(vals)
		if got != want || len(vals) != count {
			t.Fatalf("All(%q): %d data, %s; asked for %d, %s", s, len(vals), got, count, want)
		}
		if made != n || w.h.Live() != len(was)+n {
			t.Fatalf("All(%q): %d objects are made, %d of them are told; Count: %d", s, w.h.Live()-len(was), made, n)
		}
		w.keeps(s, was)
		one(t, s, room, count, want)
	}
	if n > 0 {
		w := newWorld(t, n-1)
		w.refuses(s, len(s), api.ErrFull)
	}
}

// one asks what One tells of a text that has some data, and no fault.
func one(t *testing.T, s string, room, count int, want string) {
	t.Helper()
	w := newWorld(t, room)
	was, before := w.state(), w.objects()
	v, place, e := read.One(w.h, w.x, s)
	if place != len(s) {
		t.Fatalf("One(%q): the place %d", s, place)
	}
	if count == 1 {
		got, made := w.sketch([]api.Val{v})
		if got != want || e != api.OK || w.h.Live() != len(before)+made {
			t.Fatalf("One(%q): %s, %d; asked for %s", s, got, e, want)
		}
		w.keeps(s, before)
		return
	}
	asked := api.ErrNone
	if count > 1 {
		asked = api.ErrLong
	}
	if v != (api.Val{}) || e != asked || w.state() != was {
		t.Fatalf("One(%q): %v, %d; asked for %d, and nothing changed", s, v, e, asked)
	}
}

// refuses asks that All and One refuse a text, with nothing told beside that,
// and nothing changed.
func (w *world) refuses(s string, place int, want api.Errno) {
	w.t.Helper()
	was := w.state()
	if vals, got, e := read.All(w.h, w.x, s); len(vals) > 0 || got != place || e != want {
		w.t.Fatalf("All(%q): %v, %d, %d; asked for %d, %d", s, vals, got, e, place, want)
	}
	if v, got, e := read.One(w.h, w.x, s); v != (api.Val{}) || got != place || e != want {
		w.t.Fatalf("One(%q): %v, %d, %d; asked for %d, %d", s, v, got, e, place, want)
	}
	if now := w.state(); now != was {
		w.t.Fatalf("%q has changed something: %s, not %s", s, now, was)
	}
}

// fails asks that a text has a fault, whether there is room or not.
func fails(t *testing.T, s string, place int, want api.Errno) {
	t.Helper()
	if n, got, e := read.Count(s); n != 0 || got != place || e != want {
		t.Fatalf("Count(%q): %d, %d, %d; asked for %d, %d", s, n, got, e, place, want)
	}
	for _, room := range []int{0, 20} {
		newWorld(t, room).refuses(s, place, want)
	}
}

// ends asks that a text ends too early.
func ends(t *testing.T, s string) {
	t.Helper()
	fails(t, s, len(s), api.ErrEnd)
}

// names are those that a table has.
func names(x *sym.Table) []string {
	var list []string
	for i := range x.Len() {
		list = append(list, x.Name(i))
	}
	return list
}

// numbers asks that a text, read into a table with some names, has the table have
// some more, in that order.
func numbers(t *testing.T, s string, had []string, more ...string) {
	t.Helper()
	w := newWorld(t, 100)
	w.x = sym.New()
	for _, name := range had {
		w.x.Number(name)
	}
	if _, _, e := read.All(w.h, w.x, s); e != api.OK {
		t.Fatalf("All(%q): %d", s, e)
	}
	if got := names(w.x); !slices.Equal(got, slices.Concat(had, more)) {
		t.Fatalf("All(%q): the names are %q; there were %q, asked for %q more", s, got, had, more)
	}
}

// all is the data of a text that has no fault.
func (w *world) all(s string) []api.Val {
	w.t.Helper()
	vals, _, e := read.All(w.h, w.x, s)
	if e != api.OK {
		w.t.Fatalf("All(%q): %d", s, e)
	}
	return vals
}

// items are the first items of a list.
func (w *world) items(v api.Val, count int) []api.Val {
	w.t.Helper()
	var list []api.Val
	for range count {
		o, e := w.h.Obj(v)
		if e != api.OK || o.Kind != api.Pair {
			w.t.Fatalf("%v is no pair: %v, %d", v, o, e)
		}
		list, v = append(list, o.Vals[0]), o.Vals[1]
	}
	return list
}
