package sweep_test

import (
	"slices"
	"testing"

	"hibernacle/api"
	"hibernacle/heap"
	"hibernacle/sweep"
)

// collects asks that Collect drops all but the objects at these places, leaves
// those as they were, and drops nothing once more.
func collects(t *testing.T, what string, h *heap.Heap, roots []api.Val, left ...int) {
	t.Helper()
	slices.Sort(left)
	had, gone := slices.Clone(roots), h.Live()-len(left)
	was := map[int]string{}
	for v := range h.All() {
		was[v.N] = stateOf(h, v)
	}
	order := sweep.List(h, roots)
	if n := sweep.Collect(h, roots); n != gone {
		t.Fatalf("%s: Collect: %d, not %d", what, n, gone)
	}
	same(t, what+": All", slices.Collect(h.All()), refs(left...))
	if h.Live() != len(left) {
		t.Fatalf("%s: Live: %d", what, h.Live())
	}
	for place, s := range was {
		if is := h.Has(ref(place)); is != slices.Contains(left, place) || is && stateOf(h, ref(place)) != s {
			t.Fatalf("%s: behind Collect: %s, not %s", what, stateOf(h, ref(place)), s)
		}
	}
	same(t, what+": the roots", roots, had)
	same(t, what+": List", sweep.List(h, roots), order)
	before := state(h)
	if n := sweep.Collect(h, roots); n != 0 || state(h) != before {
		t.Fatalf("%s: Collect, once more: %d", what, n)
	}
}

// 14.1, 14.4: of all, of none, of some.
func TestCollect(t *testing.T) {
	list := []struct {
		what  string
		roots []api.Val
		left  []int
	}{
		{"nil", nil, nil},
		{"no roots", []api.Val{}, nil},
		{"nothing", nothing(), nil},
		{"all", refs(0, 1, 2, 4, 5, 6, 7, 8), []int{0, 1, 2, 4, 5, 6, 7, 8}},
		{"all by two", refs(7, 8), []int{0, 1, 2, 4, 5, 6, 7, 8}},
		{"the first", refs(0), []int{0, 1, 2}},
		{"in a ring", refs(4), []int{4, 5}},
		{"itself", refs(6), []int{6}},
		{"the last", refs(8), []int{8}},
		{"the last but one", refs(7), []int{0, 1, 2, 4, 5, 6, 7}},
		{"some, twice", refs(2, 5, 2, 3), []int{2, 4, 5}},
		{"some, amid nothing", append(nothing(), ref(6), number(0), ref(1)), []int{1, 2, 6}},
	}
	for _, x := range list {
		h := made(t, []int{1, 2}, []int{2, 3}, nil, nil, []int{5}, []int{4, 4}, []int{6}, []int{0, 4, 6}, nil)
		h.Drop(ref(3))
		collects(t, x.what, h, x.roots, x.left...)
	}
	collects(t, "an empty memory", newHeap(t, 5), nothing())
}

// 14.1: objects of each kind are dropped, and those that are reached stay.
func TestCollectOfEachKind(t *testing.T) {
	build := func() (*heap.Heap, int) {
		h := newHeap(t, 40)
		for k := range api.ObjKinds {
			vals, of := kinds()[k]
			o := api.Obj{Kind: k, Vals: make([]api.Val, vals)}
			if !of {
				o.Bytes = []byte("ab")
			}
			add(t, h, o)
			add(t, h, o)
		}
		return h, int(api.ObjKinds)
	}
	for k := range api.ObjKinds {
		h, all := build()
		collects(t, "one of a kind", h, refs(int(k)*2), int(k)*2)
		if h, _ = build(); sweep.Collect(h, refs(int(k)*2+1)) != 2*all-1 {
			t.Errorf("of the kind %d", k)
		}
	}
}

// 14.1: objects with numbers, changed and not changed, that are reached, are as
// they were; those that aren't are gone with their numbers.
func TestCollectNumbered(t *testing.T) {
	build := func() *heap.Heap {
		h := made(t, []int{1}, []int{2}, nil, []int{4}, []int{5}, nil, nil)
		for place, n := range []int{10, 11, 12, 13, 14, 15} {
			if e := h.Keep(ref(place), n); e != api.OK {
				t.Fatalf("Keep: %d", e)
			}
		}
		// 1 and 4 have numbers and are changed; 2 and 5 are away; 6 has none.
		set(t, h, ref(1), 0, ref(2))
		set(t, h, ref(4), 0, ref(5))
		if !h.Send(ref(2)) || !h.Send(ref(5)) {
			t.Fatal("Send")
		}
		return h
	}
	list := []struct {
		roots []api.Val
		left  []int
	}{
		{refs(0), []int{0, 1, 2}}, {refs(3), []int{3, 4, 5}}, {refs(1, 4), []int{1, 2, 4, 5}}, {refs(2), []int{2}},
		{refs(6), []int{6}}, {nil, nil}, {refs(0, 3, 6), []int{0, 1, 2, 3, 4, 5, 6}},
	}
	for _, x := range list {
		h := build()
		collects(t, "numbered", h, x.roots, x.left...)
		for place, n := range []int{10, 11, 12, 13, 14, 15} {
			if v, is := h.Find(n); is != slices.Contains(x.left, place) || is && v != ref(place) {
				t.Errorf("Collect(%v): Find(%d): %v, %v", x.roots, n, v, is)
			}
		}
	}
}

// 14.1: what is gone makes room, at the least places.
func TestCollectMakesRoom(t *testing.T) {
	h := made(t, []int{2}, nil, nil, []int{1})
	if _, e := h.Add(vector()); e != api.ErrFull {
		t.Fatalf("Add: %d", e)
	}
	collects(t, "full", h, refs(0), 0, 2)
	for _, place := range []int{1, 3} {
		if v := add(t, h, vector()); v != ref(place) {
			t.Errorf("Add: %v, not %d", v, place)
		}
	}
	collects(t, "full again", h, refs(0, 3), 0, 2, 3)
}

// 14.1: more and more is dropped, as less and less is reached.
func TestCollectByAndBy(t *testing.T) {
	h := made(t, []int{1, 5}, []int{2, 6}, []int{3, 7}, []int{4, 8}, nil, nil, nil, nil, nil)
	left := []int{0, 1, 2, 3, 4, 5, 6, 7, 8}
	for top := range 5 {
		collects(t, "from the top on", h, refs(top), left...)
		left = slices.DeleteFunc(left, func(place int) bool { return place == top || place == top+5 })
	}
}

// 14.1: a clone is collected by itself.
func TestCollectOfClone(t *testing.T) {
	h := made(t, []int{1}, nil, nil)
	other := h.Clone()
	collects(t, "a clone", other, refs(0), 0, 1)
	reaches(t, "the memory", h, refs(2, 0), 2, 0, 1)
	collects(t, "the memory", h, refs(2), 2)
	reaches(t, "the clone", other, refs(2, 0), 0, 1)
}
