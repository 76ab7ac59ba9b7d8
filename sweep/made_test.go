package sweep_test

import (
	"fmt"
	"math"
	"slices"
	"strings"
	"testing"

	"hibernacle/api"
	"hibernacle/heap"
	"hibernacle/sweep"
)

func ref(place int) api.Val { return api.Val{K: api.Ref, N: place} }

func number(n int) api.Val { return api.Val{K: api.Int, N: n} }

// refs are Refs to places.
func refs(places ...int) []api.Val {
	var list []api.Val
	for _, place := range places {
		list = append(list, ref(place))
	}
	return list
}

func pair(a, b api.Val) api.Obj {
	return api.Obj{Kind: api.Pair, Vals: []api.Val{a, b}}
}

func vector(vals ...api.Val) api.Obj {
	return api.Obj{Kind: api.Vector, Vals: vals}
}

func text(k api.ObjKind, s string) api.Obj {
	return api.Obj{Kind: k, Bytes: []byte(s)}
}

// newHeap is a memory that nothing may be fetched for.
func newHeap(t *testing.T, limit int) *heap.Heap {
	t.Helper()
	h, e := heap.New(limit)
	if h == nil || e != api.OK {
		t.Fatalf("New(%d): %v, %d", limit, h, e)
	}
	h.Fetch(func(n int) (api.Obj, api.Errno) {
		t.Errorf("%d is fetched", n)
		return api.Obj{}, api.ErrDown
	})
	return h
}

func add(t *testing.T, h *heap.Heap, o api.Obj) api.Val {
	t.Helper()
	v, e := h.Add(o)
	if e != api.OK {
		t.Fatalf("Add: %d", e)
	}
	return v
}

// set has the value i of an object be x.
func set(t *testing.T, h *heap.Heap, v api.Val, i int, x api.Val) {
	t.Helper()
	if e := h.Set(v, i, x); e != api.OK {
		t.Fatalf("Set(%v, %d, %v): %d", v, i, x, e)
	}
}

// send has an object have a number, and go away.
func send(t *testing.T, h *heap.Heap, v api.Val, n int) {
	t.Helper()
	if e := h.Keep(v, n); e != api.OK || !h.Send(v) || !h.IsAway(v) {
		t.Fatalf("Keep(%v, %d): %d; it isn't away", v, n, e)
	}
}

// made is a memory with a Vector for each row, at the places from 0 on, that
// refers to the places that the row tells.
func made(t *testing.T, rows ...[]int) *heap.Heap {
	t.Helper()
	h := newHeap(t, max(1, len(rows)))
	for _, row := range rows {
		add(t, h, vector(make([]api.Val, len(row))...))
	}
	for place, row := range rows {
		for i, to := range row {
			set(t, h, ref(place), i, ref(to))
		}
	}
	return h
}

// state is all that a memory tells without anything being fetched.
func state(h *heap.Heap) string {
	var b strings.Builder
	fmt.Fprintln(&b, h.Live(), h.Limit())
	for v := range h.All() {
		b.WriteString(stateOf(h, v))
	}
	return b.String()
}

// stateOf is all that a memory tells of an object.
func stateOf(h *heap.Heap, v api.Val) string {
	s := fmt.Sprintln(v, h.Has(v), h.IsAway(v), h.Number(v), h.Changed(v))
	if h.Has(v) && !h.IsAway(v) {
		o, e := h.Obj(v)
		s += fmt.Sprintln(o.Kind, o.Vals, o.Bytes, e)
	}
	return s
}

// same asks that a list is as it has to be; nil and empty are one.
func same(t *testing.T, what string, got, want []api.Val) {
	t.Helper()
	if !slices.Equal(got, want) {
		if len(got) > 20 || len(want) > 20 {
			t.Fatalf("%s: %d values, not the %d", what, len(got), len(want))
		}
		t.Fatalf("%s: %v, not %v", what, got, want)
	}
}

// reaches asks that roots reach the objects at these places, in this order, by
// each call that tells it, and that it changes nothing.
func reaches(t *testing.T, what string, h *heap.Heap, roots []api.Val, places ...int) {
	t.Helper()
	before, had := state(h), slices.Clone(roots)
	same(t, what+": Reach", slices.Collect(sweep.Reach(h, roots)), refs(places...))
	same(t, what+": List", sweep.List(h, roots), refs(places...))
	same(t, what+": the roots", roots, had)
	if after := state(h); after != before {
		t.Fatalf("%s: memory is %s, not %s", what, after, before)
	}
}

// nothing are values that refer to no object in a memory with fewer than ten
// places, of which there is no object at 3.
func nothing() []api.Val {
	list := refs(3, -1, -2, 10, 11, 16383, 16384, 1<<31, math.MaxInt, math.MinInt)
	for k := api.Kind(-1); k <= api.Kinds+1; k++ {
		if k != api.Ref {
			list = append(list, api.Val{K: k}, api.Val{K: k, N: 1}, api.Val{K: k, N: -1})
		}
	}
	return append(list, api.Val{K: math.MaxInt, N: 1}, api.Val{K: math.MinInt, N: 1})
}

// kinds are the kinds of objects whose values may refer to others, with how
// many values they have here.
func kinds() map[api.ObjKind]int {
	return map[api.ObjKind]int{
		api.Pair: 2, api.Vector: 3, api.Box: 1, api.Closure: 2, api.Frame: 5, api.Code: 4, api.Error: 2,
		api.Values: 3, api.Kont: 256, api.Cont: 1, api.Port: 2, api.Alias: 2,
	}
}
