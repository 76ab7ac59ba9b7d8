package sweep_test

import (
	"maps"
	"testing"

	"hibernacle/api"
	"hibernacle/heap"
	"hibernacle/sweep"
)

// withAway has 0, that refers to 1, 2 and 4; 1, that is away, and would refer to
// 3 and 4; 2, that refers to nothing; 3, that refers to 4; and 4, that is away
// and was never there.
func withAway(t *testing.T) *heap.Heap {
	t.Helper()
	h := made(t, []int{1, 2, 1}, []int{3, 4}, []int{}, []int{4}, []int{})
	send(t, h, ref(1), 8)
	h.Drop(ref(4))
	v, e := h.Away(9)
	if v != ref(4) || e != api.OK {
		t.Fatalf("Away: %v, %d", v, e)
	}
	set(t, h, ref(0), 2, v)
	return h
}

// 14.1, Words: an object that is away is reached, what it would refer to
// isn't, and nothing is fetched.
func TestAwayReached(t *testing.T) {
	h := withAway(t)
	reaches(t, "from 0", h, refs(0), 0, 1, 2, 4)
	reaches(t, "what is away", h, refs(1), 1)
	reaches(t, "both that are away", h, refs(4, 1, 4), 4, 1)
	reaches(t, "what it would refer to", h, refs(1, 3), 1, 3, 4)
	reaches(t, "all", h, refs(3, 2, 1, 0), 3, 2, 1, 0, 4)
}

// 14.1: an object that is away, and that was fetched then, refers to what came
// for it.
func TestAwayFetched(t *testing.T) {
	h := withAway(t)
	h.Fetch(func(n int) (api.Obj, api.Errno) { return pair(ref(3), ref(0)), api.OK })
	reaches(t, "away", h, refs(1), 1)
	if _, e := h.Kind(ref(1)); e != api.OK {
		t.Fatalf("Kind: %d", e)
	}
	reaches(t, "fetched", h, refs(1), 1, 3, 0, 4, 2)
	h.Send(ref(1))
	reaches(t, "away again", h, refs(1), 1)
}

// 14.1: Collect fetches nothing, drops what is away and isn't reached, and what
// is away that is reached stays so, without what it would refer to.
func TestAwayCollected(t *testing.T) {
	list := []struct {
		roots []api.Val
		left  []int
	}{
		{refs(0), []int{0, 1, 2, 4}},
		{refs(1), []int{1}},
		{refs(4), []int{4}},
		{refs(3), []int{3, 4}},
		{refs(1, 2), []int{1, 2}},
		{refs(2), []int{2}},
		{nil, nil},
	}
	for _, x := range list {
		h := withAway(t)
		want := []string{}
		for _, place := range x.left {
			want = append(want, stateOf(h, ref(place)))
		}
		if n := sweep.Collect(h, x.roots); n != 5-len(x.left) || h.Live() != len(x.left) {
			t.Errorf("Collect(%v): %d; Live: %d", x.roots, n, h.Live())
		}
		for i, place := range x.left {
			if got := stateOf(h, ref(place)); got != want[i] {
				t.Errorf("Collect(%v): %s, not %s", x.roots, got, want[i])
			}
		}
		for n, place := range map[int]int{8: 1, 9: 4} {
			if v, is := h.Find(n); is != h.Has(ref(place)) || is && v != ref(place) {
				t.Errorf("Collect(%v): Find(%d): %v, %v", x.roots, n, v, is)
			}
		}
		if n := sweep.Collect(h, x.roots); n != 0 {
			t.Errorf("Collect(%v), once more: %d", x.roots, n)
		}
	}
}

// 14.2: Path, Count and Size tell nothing of what is away, and fetch nothing.
func TestAwayNotTold(t *testing.T) {
	h := withAway(t)
	before := state(h)
	any := func(api.ObjKind) bool { return true }
	same(t, "Path from 0", sweep.Path(h, refs(0), any), refs(0))
	same(t, "Path from what is away", sweep.Path(h, refs(1), any), nil)
	same(t, "Path from what is away, twice", sweep.Path(h, refs(1, 4, 1), any), nil)
	same(t, "Path from 1 and 2", sweep.Path(h, refs(1, 2), any), refs(2))
	same(t, "Path to a pair", sweep.Path(h, refs(0, 1, 4), func(k api.ObjKind) bool { return k == api.Pair }), nil)
	counts := []struct {
		roots []api.Val
		count int
		size  int
	}{
		{refs(0), 2, 3}, {refs(1), 0, 0}, {refs(4, 1), 0, 0}, {refs(1, 2), 1, 0}, {refs(3), 1, 1}, {refs(3, 0), 3, 4},
	}
	for _, x := range counts {
		want := map[api.ObjKind]int{}
		if x.count > 0 {
			want[api.Vector] = x.count
		}
		if got := sweep.Count(h, x.roots); !maps.Equal(got, want) {
			t.Errorf("Count(%v): %v", x.roots, got)
		}
		if got := sweep.Size(h, x.roots); got != x.size {
			t.Errorf("Size(%v): %d", x.roots, got)
		}
	}
	if after := state(h); after != before {
		t.Errorf("memory is %s, not %s", after, before)
	}
}

// 14.2: the first one that is so is away, and another one isn't; and a way that
// would go by one that is away goes by others.
func TestAwayPassedBy(t *testing.T) {
	h := newHeap(t, 10)
	last := add(t, h, text(api.String, "last"))
	gone := add(t, h, text(api.String, "gone"))
	short := add(t, h, api.Obj{Kind: api.Box, Vals: []api.Val{last}})
	long := add(t, h, pair(number(1), last))
	more := add(t, h, pair(long, number(1)))
	top := add(t, h, vector(gone, short, more))
	send(t, h, gone, 1)
	str := func(k api.ObjKind) bool { return k == api.String }
	same(t, "Path by the box", sweep.Path(h, []api.Val{top}, str), []api.Val{top, short, last})
	send(t, h, short, 2)
	same(t, "Path by the pairs", sweep.Path(h, []api.Val{top}, str), []api.Val{top, more, long, last})
	reaches(t, "all", h, []api.Val{top}, 5, 1, 2, 4, 3, 0)
	if n := sweep.Size(h, []api.Val{top}); n != 3+2+2+4 {
		t.Errorf("Size: %d", n)
	}
	if got := sweep.Count(h, []api.Val{top}); !maps.Equal(got, map[api.ObjKind]int{api.Vector: 1, api.Pair: 2, api.String: 1}) {
		t.Errorf("Count: %v", got)
	}
	send(t, h, long, 3)
	same(t, "Path by what is away", sweep.Path(h, []api.Val{top}, str), nil)
}
