package sweep_test

import (
	"slices"
	"testing"

	"hibernacle/api"
	"hibernacle/heap"
	"hibernacle/sweep"
)

// The chapter's example: of a list of two pairs, and one pair by itself.
func TestExample(t *testing.T) {
	h := newHeap(t, 9)
	end := add(t, h, pair(number(2), api.Val{}))
	list := add(t, h, pair(number(1), end))
	alone := add(t, h, pair(number(3), api.Val{}))
	reaches(t, "the list", h, []api.Val{list}, 1, 0)
	if n := sweep.Collect(h, []api.Val{list}); n != 1 || h.Has(alone) || h.Live() != 2 {
		t.Fatalf("Collect: %d; Live: %d", n, h.Live())
	}
	reaches(t, "the list", h, []api.Val{list}, 1, 0)
}

// 14.1: values that are no Ref, and Refs to places without an object, reach
// nothing.
func TestReachNothing(t *testing.T) {
	h := made(t, nil, []int{2}, []int{1, 1}, []int{0}, []int{})
	h.Drop(ref(3))
	reaches(t, "nil", h, nil)
	reaches(t, "no roots", h, []api.Val{})
	for _, v := range nothing() {
		reaches(t, "nothing", h, []api.Val{v})
		reaches(t, "nothing, and more", h, []api.Val{v, ref(2), v, ref(4), v}, 2, 4, 1)
	}
	reaches(t, "all that is nothing", h, nothing())
	reaches(t, "an empty memory", newHeap(t, 5), append(nothing(), ref(0)))
}

// 14.1: an object's values that are no Ref, or a Ref to one that was dropped,
// reach nothing.
func TestReachNothingInObjects(t *testing.T) {
	h := made(t, []int{1, 2, 3, 1}, []int{3}, nil, []int{4}, []int{0})
	reaches(t, "all", h, refs(0), 0, 1, 2, 3, 4)
	h.Drop(ref(3))
	reaches(t, "what is left", h, refs(0), 0, 1, 2)
	reaches(t, "what is left", h, refs(3, 1, 3), 1)
	reaches(t, "what is behind", h, refs(4), 4, 0, 1, 2)
	for k := range api.Kinds {
		if k != api.Ref {
			set(t, h, ref(0), 1, api.Val{K: k, N: 4})
			reaches(t, "no Ref", h, refs(0), 0, 1)
		}
	}
}

// 14.1: another object, that came where one was dropped, is reached.
func TestReachOneThatCameSince(t *testing.T) {
	h := made(t, []int{1}, []int{2}, nil)
	h.Drop(ref(1))
	reaches(t, "dropped", h, refs(0), 0)
	if v := add(t, h, pair(ref(0), ref(0))); v != ref(1) {
		t.Fatalf("Add: %v", v)
	}
	reaches(t, "another one", h, refs(0), 0, 1)
}

// 14.1: each object is told once.
func TestReachOnce(t *testing.T) {
	h := made(t, []int{0}, []int{2}, []int{1}, []int{4, 5, 4, 5}, []int{6}, []int{6}, []int{5}, []int{7, 7, 8}, []int{9}, []int{7})
	reaches(t, "itself", h, refs(0), 0)
	reaches(t, "itself, twice", h, refs(0, 0), 0)
	reaches(t, "each other", h, refs(1), 1, 2)
	reaches(t, "each other", h, refs(2), 2, 1)
	reaches(t, "each other, both", h, refs(2, 1, 2, 1), 2, 1)
	reaches(t, "by many ways", h, refs(3), 3, 4, 5, 6)
	reaches(t, "in a ring", h, refs(7), 7, 8, 9)
	reaches(t, "in a ring", h, refs(9), 9, 7, 8)
	reaches(t, "all", h, refs(9, 0, 3, 2, 0, 9), 9, 0, 3, 2, 7, 4, 5, 1, 8, 6)
}

// 14.1: objects are told in rounds: not by their places, and not going down
// first.
func TestReachInRounds(t *testing.T) {
	rows := [][]int{
		{5, 3},    // 0
		{},        // 1
		{0, 4},    // 2
		{1, 6, 0}, // 3
		{},        // 4
		{7, 6},    // 5
		{2},       // 6
		{1, 4},    // 7
	}
	h := made(t, rows...)
	reaches(t, "from 0", h, refs(0), 0, 5, 3, 7, 6, 1, 4, 2)
	reaches(t, "from 3", h, refs(3), 3, 1, 6, 0, 2, 5, 4, 7)
	reaches(t, "from 7, 6", h, refs(7, 6), 7, 6, 1, 4, 2, 0, 5, 3)
	reaches(t, "from 6, 7", h, refs(6, 7), 6, 7, 2, 1, 4, 0, 5, 3)
	reaches(t, "from 4, 2, 1", h, refs(4, 2, 1), 4, 2, 1, 0, 5, 3, 7, 6)
	// A root is told ahead of what other roots refer to, whatever they do.
	h = made(t, []int{1, 2}, []int{3}, []int{4}, nil, nil)
	reaches(t, "from 0 and 4", h, refs(0, 4), 0, 4, 1, 2, 3)
	reaches(t, "from 0 and 2", h, refs(0, 2), 0, 2, 1, 4, 3)
	// Two rounds down is told behind one round down.
	h = made(t, []int{2, 1}, []int{4}, []int{3}, []int{1}, nil)
	reaches(t, "from 0", h, refs(0), 0, 2, 1, 3, 4)
}

// 14.1: values of objects of each kind, at each of their places, are gone to.
func TestReachByEachKind(t *testing.T) {
	for k, count := range kinds() {
		h := newHeap(t, 4)
		one, two := add(t, h, text(api.String, "one")), add(t, h, text(api.Bytes, "\xff"))
		v := add(t, h, api.Obj{Kind: k, Vals: make([]api.Val, count)})
		reaches(t, "without a Ref", h, refs(2), 2)
		for i := range count {
			set(t, h, v, i, two)
			reaches(t, "by one value", h, refs(2), 2, 1)
			set(t, h, v, i, number(1))
		}
		set(t, h, v, 0, one)
		set(t, h, v, count-1, two)
		if count == 1 {
			reaches(t, "by the only value", h, refs(2), 2, 1)
			continue
		}
		reaches(t, "by the first one and the last one", h, refs(2), 2, 0, 1)
		set(t, h, v, 0, two)
		set(t, h, v, 1, one)
		set(t, h, v, count-1, one)
		reaches(t, "by all", h, refs(2), refsTo(h, v)...)
	}
}

// refsTo are the places of an object and of what it refers to, in order.
func refsTo(h *heap.Heap, v api.Val) []int {
	places := []int{v.N}
	o, _ := h.Obj(v)
	for _, x := range o.Vals {
		if x.K == api.Ref && !slices.Contains(places, x.N) {
			places = append(places, x.N)
		}
	}
	return places
}

// 14.1: ten thousand in a row, by rising and by falling places.
func TestReachLongRow(t *testing.T) {
	h := newHeap(t, 16384)
	end := api.Val{}
	for i := range 10000 {
		end = add(t, h, pair(number(i), end))
	}
	falling := make([]int, 10000)
	rising := make([]int, 10000)
	for i := range 10000 {
		falling[i], rising[i] = 9999-i, i
	}
	reaches(t, "falling", h, refs(9999), falling...)
	reaches(t, "from the midst", h, refs(4999), falling[5000:]...)
	for i := range 10000 {
		set(t, h, ref(i), 1, ref(i+1-i/9999*10000))
	}
	reaches(t, "rising, in a ring", h, refs(0), rising...)
	reaches(t, "both, in a ring", h, refs(9999), append([]int{9999}, rising[:9999]...)...)
	set(t, h, ref(9999), 1, api.Val{})
	reaches(t, "rising", h, refs(0), rising...)
	if n := sweep.Collect(h, refs(6000)); n != 6000 || h.Live() != 4000 {
		t.Fatalf("Collect: %d; Live: %d", n, h.Live())
	}
	reaches(t, "what is left", h, refs(6000), rising[6000:]...)
}

// 14.1: a memory that is full, each object with as many values as may be.
func TestReachAllOfFullMemory(t *testing.T) {
	h := newHeap(t, 16384)
	for range 16384 {
		add(t, h, vector(make([]api.Val, 256)...))
	}
	for i := range 64 {
		for j := range 256 {
			set(t, h, ref(i), j, ref(i*256+j))
		}
	}
	all := make([]int, 16384)
	for i := range all {
		all[i] = i
	}
	same(t, "List", sweep.List(h, refs(0)), refs(all...))
	same(t, "Reach", slices.Collect(sweep.Reach(h, refs(0))), refs(all...))
	roots := refs(all...)
	slices.Reverse(roots)
	same(t, "List of all", sweep.List(h, roots), roots)
	if n := sweep.Size(h, refs(0)); n != 16384*256 {
		t.Fatalf("Size: %d", n)
	}
	if n := sweep.Collect(h, refs(0)); n != 0 {
		t.Fatalf("Collect: %d", n)
	}
	if n := sweep.Collect(h, refs(1)); n != 16384-257 {
		t.Fatalf("Collect: %d", n)
	}
}

// 14.1: Reach left amid the loop, ranged over twice, and once within itself.
func TestReachLeft(t *testing.T) {
	h := made(t, []int{2, 1}, nil, []int{3}, []int{0})
	want := refs(0, 2, 1, 3)
	all := sweep.Reach(h, refs(0))
	for range 2 {
		for stop := range want {
			var got []api.Val
			for v := range all {
				got = append(got, v)
				if len(got) > stop {
					break
				}
			}
			same(t, "left", got, want[:stop+1])
		}
		same(t, "whole", slices.Collect(all), want)
	}
	n := 0
	for range all {
		for v := range all {
			if v != want[n%4] {
				t.Errorf("the %d. is %v", n, v)
			}
			n++
		}
	}
	if n != 16 {
		t.Errorf("%d objects", n)
	}
}

// 14.1, and the rule that what is told is new memory: Reach tells what there
// was when it was asked for, whatever memory is changed to, ahead of the loop
// and amid it.
func TestReachStays(t *testing.T) {
	want := refs(0, 2, 1, 3)
	changes := map[string]func(h *heap.Heap){
		"dropped":     func(h *heap.Heap) { h.Drop(ref(2)); h.Drop(ref(1)) },
		"all dropped": func(h *heap.Heap) { sweep.Collect(h, nil) },
		"set":         func(h *heap.Heap) { h.Set(ref(0), 0, api.Val{}); h.Set(ref(0), 1, ref(4)) },
		"more":        func(h *heap.Heap) { h.Set(ref(3), 0, ref(4)) },
		"added":       func(h *heap.Heap) { v, _ := h.Add(vector()); h.Set(ref(2), 0, v) },
		"sent": func(h *heap.Heap) {
			h.Keep(ref(2), 7)
			h.Send(ref(2))
		},
	}
	for what, change := range changes {
		rows := [][]int{{2, 1}, nil, {3}, {0}, nil}
		h := made(t, rows...)
		all := sweep.Reach(h, refs(0))
		change(h)
		same(t, what+" ahead", slices.Collect(all), want)
		for stop := range want {
			h := made(t, rows...)
			var got []api.Val
			all := sweep.Reach(h, refs(0))
			for v := range all {
				if len(got) == stop {
					change(h)
				}
				got = append(got, v)
			}
			same(t, what+" amid", got, want)
			same(t, what+" behind", slices.Collect(all), want)
		}
	}
}

// 14.1: each object is dropped as it is told.
func TestReachDropped(t *testing.T) {
	h := made(t, []int{2, 1}, nil, []int{3}, []int{0}, nil)
	var got []api.Val
	for v := range sweep.Reach(h, refs(0)) {
		got = append(got, v)
		if !h.Drop(v) {
			t.Errorf("%v isn't there", v)
		}
	}
	same(t, "Reach", got, refs(0, 2, 1, 3))
	if h.Live() != 1 || !h.Has(ref(4)) {
		t.Errorf("Live: %d", h.Live())
	}
}

// The rule of memory: roots are neither changed nor kept, and what is told is
// by itself.
func TestReachIsByItself(t *testing.T) {
	h := made(t, []int{1}, []int{2}, nil, nil)
	roots := refs(0, 3, 0)
	all := sweep.Reach(h, roots)
	list, other := sweep.List(h, roots), sweep.List(h, roots)
	copy(roots, []api.Val{number(5), ref(77), ref(2)})
	want := refs(0, 3, 1, 2)
	same(t, "Reach", slices.Collect(all), want)
	same(t, "List", list, want)
	for i := range list {
		list[i] = ref(99)
	}
	_ = append(list[:1], list[2:]...)
	same(t, "the other list", other, want)
	same(t, "Reach", slices.Collect(all), want)
	same(t, "List", sweep.List(h, refs(0, 3, 0)), want)
	// A list of roots with room behind it, and one that is told, as roots.
	long := refs(3, 1, 2, 2)
	same(t, "List of some", sweep.List(h, long[:1]), refs(3))
	same(t, "the room", long, refs(3, 1, 2, 2))
	list = sweep.List(h, long)
	same(t, "List of a list", sweep.List(h, list), refs(3, 1, 2))
	same(t, "the list", list, refs(3, 1, 2))
}
