package sweep_test

import (
	"slices"
	"testing"

	"hibernacle/api"
	"hibernacle/heap"
	"hibernacle/sweep"
)

// of tells whether a kind is one of some.
func of(kinds ...api.ObjKind) func(k api.ObjKind) bool {
	return func(k api.ObjKind) bool { return slices.Contains(kinds, k) }
}

// path asks for a path, and that it changes nothing.
func path(t *testing.T, what string, h *heap.Heap, roots []api.Val, is func(k api.ObjKind) bool, places ...int) {
	t.Helper()
	before, had := state(h), slices.Clone(roots)
	same(t, what+": Path", sweep.Path(h, roots, is), refs(places...))
	same(t, what+": the roots", roots, had)
	if after := state(h); after != before {
		t.Fatalf("%s: memory is %s, not %s", what, after, before)
	}
}

// typed is a memory as made has, whose objects at some places, with rows of one,
// are Boxes.
func typed(t *testing.T, boxes []int, rows ...[]int) *heap.Heap {
	t.Helper()
	h := newHeap(t, len(rows))
	for place, row := range rows {
		o := vector(make([]api.Val, len(row))...)
		if slices.Contains(boxes, place) {
			o.Kind = api.Box
		}
		add(t, h, o)
	}
	for place, row := range rows {
		for i, to := range row {
			set(t, h, ref(place), i, ref(to))
		}
	}
	return h
}

// 14.2: to each kind that there is, and to one that there isn't.
func TestPathToEachKind(t *testing.T) {
	h := newHeap(t, 40)
	for k := range api.ObjKinds {
		add(t, h, api.Obj{Kind: k, Vals: make([]api.Val, kinds()[k])})
	}
	var all []api.Val
	for k := range api.ObjKinds {
		if k != api.Vector && k != api.Error {
			all = append(all, ref(int(k)))
		}
	}
	top := add(t, h, vector(all...))
	for _, v := range all {
		k := api.ObjKind(v.N)
		path(t, "to a kind", h, []api.Val{top}, of(k), top.N, v.N)
		path(t, "to what a root refers to", h, []api.Val{v}, of(k), v.N)
		path(t, "to what a root refers to, too", h, []api.Val{top, v}, of(k), v.N)
	}
	path(t, "to the top", h, []api.Val{top}, of(api.Vector), top.N)
	path(t, "to what isn't reached", h, []api.Val{top}, of(api.Error))
	path(t, "to no kind", h, []api.Val{top}, of(-1, api.ObjKinds, api.ObjKinds+1))
	path(t, "to nothing", h, []api.Val{top}, of())
	path(t, "to all", h, refs(7, 3, 2), func(api.ObjKind) bool { return true }, 7)
}

// 14.2: with nothing that is reached, and with an is that is nil.
func TestPathToNothing(t *testing.T) {
	h := typed(t, []int{1}, []int{1, 3}, []int{0}, []int{1}, nil)
	h.Drop(ref(3))
	any := func(api.ObjKind) bool { return true }
	path(t, "nil", h, nil, any)
	path(t, "no roots", h, []api.Val{}, any)
	path(t, "nothing", h, nothing(), any)
	path(t, "nothing, and one", h, append(nothing(), ref(2), ref(0)), any, 2)
	path(t, "is nil", h, refs(0, 1, 2), nil)
	path(t, "is nil, and so is all", h, nil, nil)
	path(t, "what isn't reached", h, refs(3), any)
	path(t, "an empty memory", newHeap(t, 3), refs(0), any)
}

// 14.2: the first one, in rounds, of those that are so.
func TestPathToTheFirst(t *testing.T) {
	// Of the boxes 1, 4 and 6, from 0 on 4 is told first; by its place it would
	// be 1, and going down first 6.
	h := typed(t, []int{1, 4, 6}, []int{5, 4, 2}, []int{3}, []int{1}, nil, []int{3}, []int{6}, []int{1})
	path(t, "from 0", h, refs(0), of(api.Box), 0, 4)
	path(t, "from 5", h, refs(5), of(api.Box), 5, 6)
	path(t, "from 2, 5", h, refs(2, 5), of(api.Box), 2, 1)
	path(t, "from 5, 2", h, refs(5, 2), of(api.Box), 5, 6)
	path(t, "from 5, 2, 1", h, refs(5, 2, 1), of(api.Box), 1)
	path(t, "from 1", h, refs(1, 4, 6), of(api.Box), 1)
	path(t, "from 4, 1", h, refs(4, 1), of(api.Box), 4)
	path(t, "to a box or a vector", h, refs(4, 0), of(api.Box, api.Vector), 4)
	path(t, "to a vector", h, refs(4, 0), of(api.Vector), 0)
	path(t, "to a vector behind boxes", h, refs(6), of(api.Vector), 6, 1, 3)
}

// 14.2: by two ways, of which one is the shorter, or the earlier.
func TestPathOfTwo(t *testing.T) {
	box := []int{5}
	path(t, "the shorter is the second", typed(t, box, []int{1, 3}, []int{2}, []int{5}, []int{5}, nil, []int{0}), refs(0), of(api.Box), 0, 3, 5)
	path(t, "the shorter is the first", typed(t, box, []int{3, 1}, []int{2}, []int{5}, []int{5}, nil, []int{0}), refs(0), of(api.Box), 0, 3, 5)
	path(t, "the shortest of all", typed(t, box, []int{3, 1, 5}, []int{2}, []int{5}, []int{5}, nil, []int{0}), refs(0), of(api.Box), 0, 5)
	path(t, "as long: the first by order", typed(t, box, []int{4, 1}, []int{5}, nil, nil, []int{5}, []int{0}), refs(0), of(api.Box), 0, 4, 5)
	path(t, "as long: the first by order, too", typed(t, box, []int{1, 4}, []int{5}, nil, nil, []int{5}, []int{0}), refs(0), of(api.Box), 0, 1, 5)
	path(t, "two rounds, by the first one", typed(t, box, []int{2, 1}, []int{3}, []int{4}, []int{5}, []int{5}, []int{0}), refs(0), of(api.Box), 0, 2, 4, 5)
	path(t, "of two roots the first", typed(t, box, nil, []int{5}, []int{5}, nil, nil, []int{0}), refs(2, 1), of(api.Box), 2, 5)
	path(t, "of two roots the nearer", typed(t, box, []int{1}, []int{5}, []int{5}, nil, nil, []int{0}), refs(0, 2), of(api.Box), 2, 5)
	path(t, "a root that another refers to", typed(t, box, []int{1}, []int{5}, nil, nil, nil, []int{0}), refs(0, 1), of(api.Box), 1, 5)
	path(t, "back and forth", typed(t, box, []int{1, 0}, []int{0, 2, 1}, []int{1, 5, 0}, nil, nil, []int{2}), refs(0), of(api.Box), 0, 1, 2, 5)
	path(t, "by roots that are twice", typed(t, box, []int{2}, nil, []int{5, 5}, nil, nil, []int{5}), refs(0, 0, 2, 0), of(api.Box), 2, 5)
	path(t, "itself", typed(t, box, nil, nil, nil, nil, nil, []int{5}), refs(5), of(api.Box), 5)
	path(t, "not the last that refers to it", typed(t, box, []int{1, 2}, []int{3, 4}, []int{5}, []int{5}, []int{5}, []int{0}), refs(0), of(api.Box), 0, 2, 5)
}

// 14.2: ten thousand in a row.
func TestPathLong(t *testing.T) {
	h := newHeap(t, 16384)
	v := add(t, h, text(api.Bytes, "end"))
	places := []int{0}
	for range 10000 {
		v = add(t, h, pair(v, api.Val{}))
		places = append(places, v.N)
	}
	slices.Reverse(places)
	path(t, "ten thousand", h, []api.Val{v}, of(api.Bytes), places...)
}

// 14.2: an is that calls the memory itself, and this layer.
func TestPathThatAsksMemory(t *testing.T) {
	h := typed(t, []int{3}, []int{1, 2}, []int{3}, []int{3}, []int{0}, nil)
	asked := 0
	is := func(k api.ObjKind) bool {
		asked++
		other := sweep.Path(h, refs(0), of(api.Box))
		o, e := h.Obj(ref(0))
		return k == api.Box && h.Live() == 5 && len(sweep.List(h, refs(0))) == 4 && len(other) == 3 && len(o.Vals) == 2 && e == api.OK
	}
	path(t, "that asks", h, refs(0), is, 0, 1, 3)
	if asked == 0 {
		t.Error("nothing was asked")
	}
}

// 14.2: an is that has objects fetched, which changes no answer.
func TestPathThatFetches(t *testing.T) {
	h := typed(t, []int{2, 4}, []int{1, 2, 3}, []int{4}, []int{1}, []int{4}, []int{1})
	send(t, h, ref(1), 1)
	send(t, h, ref(2), 2)
	h.Fetch(func(n int) (api.Obj, api.Errno) {
		if n == 1 {
			return vector(ref(4)), api.OK
		}
		return api.Obj{Kind: api.Box, Vals: refs(1)}, api.OK
	})
	fetching := func(k api.ObjKind) bool {
		for v := range h.All() {
			h.Kind(v)
		}
		return k == api.Box
	}
	same(t, "away as it was asked", sweep.Path(h, refs(0), fetching), refs(0, 3, 4))
	same(t, "fetched", sweep.Path(h, refs(0), fetching), refs(0, 2))
}

// The rule of memory: the roots aren't kept, and what is told is by itself.
func TestPathIsByItself(t *testing.T) {
	h := typed(t, []int{2}, []int{1}, []int{2}, []int{0})
	roots := refs(0)
	one, two := sweep.Path(h, roots, of(api.Box)), sweep.Path(h, roots, of(api.Box))
	roots[0] = ref(2)
	one[0], one[1] = ref(9), ref(9)
	same(t, "the other one", two, refs(0, 1, 2))
	same(t, "once more", sweep.Path(h, refs(0), of(api.Box)), refs(0, 1, 2))
}
