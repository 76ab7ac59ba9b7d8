package datum_test

import (
	"fmt"
	"iter"
	"math"
	"slices"
	"strings"
	"testing"

	"hibernacle/api"
	"hibernacle/datum"
	"hibernacle/heap"
)

var (
	null = api.Val{}
	no   = api.Val{K: api.Bool}
	yes  = api.Val{K: api.Bool, N: 1}
)

func ref(place int) api.Val { return api.Val{K: api.Ref, N: place} }

func number(n int) api.Val { return api.Val{K: api.Int, N: n} }

// numbers are Ints.
func numbers(list ...int) []api.Val {
	var vals []api.Val
	for _, n := range list {
		vals = append(vals, number(n))
	}
	return vals
}

func pair(a, b api.Val) api.Obj {
	return api.Obj{Kind: api.Pair, Vals: []api.Val{a, b}}
}

func vector(vals ...api.Val) api.Obj {
	return api.Obj{Kind: api.Vector, Vals: vals}
}

func text(k api.ObjKind, s string) api.Obj {
	return api.Obj{Kind: k, Bytes: []byte(s)}
}

// newHeap is a memory that nothing may be fetched for.
func newHeap(t *testing.T, limit int) *heap.Heap {
	t.Helper()
	h, e := heap.New(limit)
	if h == nil || e != api.OK {
		t.Fatalf("New(%d): %v, %d", limit, h, e)
	}
	h.Fetch(func(n int) (api.Obj, api.Errno) {
		t.Errorf("%d is fetched", n)
		return api.Obj{}, api.ErrDown
	})
	return h
}

func add(t *testing.T, h *heap.Heap, o api.Obj) api.Val {
	t.Helper()
	v, e := h.Add(o)
	if e != api.OK {
		t.Fatalf("Add: %d", e)
	}
	return v
}

// set has the value i of an object be x.
func set(t *testing.T, h *heap.Heap, v api.Val, i int, x api.Val) {
	t.Helper()
	if e := h.Set(v, i, x); e != api.OK {
		t.Fatalf("Set(%v, %d, %v): %d", v, i, x, e)
	}
}

// chain is a chain of new pairs, that are made by memory's own calls.
func chain(t *testing.T, h *heap.Heap, items []api.Val, end api.Val) api.Val {
	t.Helper()
	for _, x := range slices.Backward(items) {
		end = add(t, h, pair(x, end))
	}
	return end
}

// ring is a chain of new pairs, the last of which goes on with the pair at the
// place back, from 0 on.
func ring(t *testing.T, h *heap.Heap, items []api.Val, back int) api.Val {
	t.Helper()
	first := chain(t, h, items, null)
	set(t, h, tail(t, h, first, len(items)-1), 1, tail(t, h, first, back))
	return first
}

// tail is what a chain goes on with behind n pairs.
func tail(t *testing.T, h *heap.Heap, v api.Val, n int) api.Val {
	t.Helper()
	for range n {
		next, e := h.At(v, 1)
		if e != api.OK {
			t.Fatalf("At(%v, 1): %d", v, e)
		}
		v = next
	}
	return v
}

// fill has a memory be full but for some places.
func fill(t *testing.T, h *heap.Heap, but int) {
	t.Helper()
	for h.Live() < h.Limit()-but {
		add(t, h, vector())
	}
}

// send has an object have a number, and go away.
func send(t *testing.T, h *heap.Heap, v api.Val, n int) {
	t.Helper()
	if e := h.Keep(v, n); e != api.OK || !h.Send(v) || !h.IsAway(v) {
		t.Fatalf("Keep(%v, %d): %d; it isn't away", v, n, e)
	}
}

// sendAll has all objects of a memory but those of some kinds go away; they are
// fetched as they were. It tells how many have been fetched so far.
func sendAll(t *testing.T, h *heap.Heap, but ...api.ObjKind) func() int {
	t.Helper()
	was := map[int]api.Obj{}
	for v := range h.All() {
		o, e := h.Obj(v)
		if e != api.OK {
			t.Fatalf("Obj(%v): %d", v, e)
		}
		if !slices.Contains(but, o.Kind) {
			was[v.N+1] = o
			send(t, h, v, v.N+1)
		}
	}
	fetched := 0
	h.Fetch(func(n int) (api.Obj, api.Errno) {
		fetched++
		return was[n], api.OK
	})
	return func() int { return fetched }
}

// state is all that a memory tells without anything being fetched.
func state(h *heap.Heap) string {
	var b strings.Builder
	fmt.Fprintln(&b, h.Live(), h.Limit())
	for v := range h.All() {
		fmt.Fprintln(&b, v, h.IsAway(v), h.Number(v), h.Changed(v))
		if !h.IsAway(v) {
			o, e := h.Obj(v)
			fmt.Fprintln(&b, o.Kind, o.Vals, o.Bytes, e)
		}
	}
	return b.String()
}

// stays asks that a memory is as it was.
func stays(t *testing.T, what string, h *heap.Heap, was string) {
	t.Helper()
	if now := state(h); now != was {
		t.Fatalf("%s: memory is %s, not %s", what, now, was)
	}
}

// same asks that a list is as it has to be; nil and empty are one.
func same(t *testing.T, what string, got, want []api.Val) {
	t.Helper()
	if !slices.Equal(got, want) {
		if len(got) > 20 || len(want) > 20 {
			t.Fatalf("%s: %d values, not the %d", what, len(got), len(want))
		}
		t.Fatalf("%s: %v, not %v", what, got, want)
	}
}

// is asks that a value is as it has to be.
func is(t *testing.T, what string, got, want api.Val) {
	t.Helper()
	if got != want {
		t.Fatalf("%s: %v, not %v", what, got, want)
	}
}

// holds asks that a value begins a chain of these items, with that end, in
// pairs by themselves: by memory's own calls, and by those of this layer.
func holds(t *testing.T, what string, h *heap.Heap, v api.Val, items []api.Val, end api.Val) {
	t.Helper()
	at := v
	for i, x := range items {
		o, e := h.Obj(at)
		if e != api.OK || o.Kind != api.Pair || o.Vals[0] != x {
			t.Fatalf("%s: the %d. pair: %v, %d", what, i, o, e)
		}
		at = o.Vals[1]
	}
	is(t, what+": the end", at, end)
	got, last, ends := datum.Chain(h, v)
	same(t, what+": Chain", got, items)
	if last != end || !ends {
		t.Fatalf("%s: Chain: %v, %v, not %v", what, last, ends, end)
	}
	list, is := datum.List(h, v)
	if is != (end.K == api.Nil) {
		t.Fatalf("%s: List: %v", what, is)
	}
	if !is {
		items = nil
	}
	same(t, what+": List", list, items)
}

// refused asks that a call answers an error, and nothing beside.
func refused(t *testing.T, what string, want api.Errno) func(v api.Val, e api.Errno) {
	t.Helper()
	return func(v api.Val, e api.Errno) {
		t.Helper()
		if e != want || v != (api.Val{}) {
			t.Fatalf("%s: %v, %d, not %d", what, v, e, want)
		}
	}
}

// made asks that a call answers a value.
func made(t *testing.T, what string) func(v api.Val, e api.Errno) api.Val {
	t.Helper()
	return func(v api.Val, e api.Errno) api.Val {
		t.Helper()
		if e != api.OK {
			t.Fatalf("%s: %d", what, e)
		}
		return v
	}
}

// told gathers what a function of two tells.
func told(all iter.Seq2[api.Val, api.Val]) (pairs, items []api.Val) {
	for p, x := range all {
		pairs, items = append(pairs, p), append(items, x)
	}
	return pairs, items
}

// plain are values of each kind but Ref.
func plain() []api.Val {
	var list []api.Val
	for k := range api.Kinds {
		if k != api.Ref {
			list = append(list, api.Val{K: k}, api.Val{K: k, N: 1}, api.Val{K: k, N: -1}, api.Val{K: k, N: math.MaxInt}, api.Val{K: k, N: math.MinInt})
		}
	}
	return list
}

// unmay are values that may not be in a memory without objects at 3 and from 9
// on.
func unmay() []api.Val {
	list := []api.Val{ref(3), ref(-1), ref(-2), ref(9), ref(10), ref(16383), ref(16384), ref(1 << 31), ref(math.MaxInt), ref(math.MinInt)}
	for _, k := range []api.Kind{-1, -2, api.Kinds, api.Kinds + 1, math.MaxInt, math.MinInt} {
		list = append(list, api.Val{K: k}, api.Val{K: k, N: 1}, api.Val{K: k, N: -1})
	}
	return list
}

// kinds are the kinds of objects that aren't pairs, with how many values they
// have here.
func kinds() map[api.ObjKind]int {
	return map[api.ObjKind]int{
		api.Vector: 2, api.String: 0, api.Bytes: 0, api.Box: 1, api.Closure: 2, api.Frame: 2, api.Code: 2, api.Error: 2,
		api.Values: 2, api.Kont: 2, api.Cont: 2, api.Port: 2, api.Alias: 2,
	}
}

// withSome has objects at the places 0 to 8 but 3: a list of 1 2 at 1, with its
// second pair at 0; a pair of 4 and 5 at 2; a String at 4, a Vector at 5, a Box
// at 6, a chain of two that goes round at 7 and 8.
func withSome(t *testing.T, limit int) *heap.Heap {
	t.Helper()
	h := newHeap(t, limit)
	end := add(t, h, pair(number(2), null))
	add(t, h, pair(number(1), end))
	add(t, h, pair(number(4), number(5)))
	gone := add(t, h, vector())
	add(t, h, text(api.String, "some"))
	add(t, h, vector(number(6), end))
	add(t, h, api.Obj{Kind: api.Box, Vals: []api.Val{end}})
	back := add(t, h, pair(number(7), null))
	there := add(t, h, pair(number(8), back))
	set(t, h, back, 1, there)
	if !h.Drop(gone) || h.Live() != 8 {
		t.Fatal("withSome: other objects")
	}
	return h
}
