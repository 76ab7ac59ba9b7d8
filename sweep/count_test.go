package sweep_test

import (
	"maps"
	"strings"
	"testing"

	"hibernacle/api"
	"hibernacle/heap"
	"hibernacle/sweep"
)

// counts asks for what Count and Size tell, and that they change nothing.
func counts(t *testing.T, what string, h *heap.Heap, roots []api.Val, size int, count map[api.ObjKind]int) {
	t.Helper()
	before := state(h)
	if got := sweep.Count(h, roots); !maps.Equal(got, count) {
		t.Errorf("%s: Count: %v, not %v", what, got, count)
	}
	if got := sweep.Size(h, roots); got != size {
		t.Errorf("%s: Size: %d, not %d", what, got, size)
	}
	if after := state(h); after != before {
		t.Errorf("%s: memory is %s, not %s", what, after, before)
	}
}

// 14.2: of objects of some kinds, with values, with bytes, and with none.
func TestCountAndSize(t *testing.T) {
	h := newHeap(t, 20)
	long := add(t, h, text(api.String, strings.Repeat("a", 4096)))
	bare := add(t, h, text(api.String, ""))
	raw := add(t, h, text(api.Bytes, "\x00\xff\x80"))
	end := add(t, h, pair(raw, raw))
	list := add(t, h, pair(number(7), end))
	empty := add(t, h, vector())
	full := add(t, h, vector(make([]api.Val, 256)...))
	top := add(t, h, vector(list, empty, bare, list, end))
	add(t, h, pair(long, full))
	type m = map[api.ObjKind]int
	counts(t, "a long string", h, []api.Val{long}, 4096, m{api.String: 1})
	counts(t, "an empty string", h, []api.Val{bare}, 0, m{api.String: 1})
	counts(t, "bytes", h, []api.Val{raw}, 3, m{api.Bytes: 1})
	counts(t, "a pair of bytes", h, []api.Val{end}, 5, m{api.Bytes: 1, api.Pair: 1})
	counts(t, "a list", h, []api.Val{list}, 7, m{api.Bytes: 1, api.Pair: 2})
	counts(t, "an empty vector", h, []api.Val{empty}, 0, m{api.Vector: 1})
	counts(t, "a full vector", h, []api.Val{full, full}, 256, m{api.Vector: 1})
	counts(t, "the top", h, []api.Val{top, raw}, 12, m{api.Bytes: 1, api.Pair: 2, api.Vector: 2, api.String: 1})
	counts(t, "all", h, refs(8, 7, 6, 5, 4, 3, 2, 1, 0), 4096+256+12+2, m{api.Bytes: 1, api.Pair: 3, api.Vector: 3, api.String: 2})
	counts(t, "nothing", h, nil, 0, m{})
	counts(t, "nothing", h, []api.Val{number(0), ref(9), ref(-1), {}}, 0, m{})
	counts(t, "no object", newHeap(t, 1), refs(0), 0, m{})
	// Refs to nothing are values as all others.
	h.Drop(raw)
	counts(t, "a list without its bytes", h, []api.Val{list}, 4, m{api.Pair: 2})
}

// 14.2: of each kind.
func TestCountOfEachKind(t *testing.T) {
	h := newHeap(t, 200)
	var roots []api.Val
	want, size := map[api.ObjKind]int{}, 0
	for k := range api.ObjKinds {
		for range k + 1 {
			roots = append(roots, add(t, h, api.Obj{Kind: k, Vals: make([]api.Val, kinds()[k])}))
			want[k]++
			size += kinds()[k]
		}
	}
	counts(t, "each kind", h, roots, size, want)
	counts(t, "each kind, twice", h, append(roots, roots...), size, want)
}

// 14.2: objects that refer to themselves and to each other count once.
func TestCountOnce(t *testing.T) {
	h := made(t, []int{0, 1, 1}, []int{2, 0}, []int{1, 1, 1, 2}, []int{0})
	counts(t, "in rings", h, refs(0), 9, map[api.ObjKind]int{api.Vector: 3})
	counts(t, "in rings", h, refs(2, 1), 9, map[api.ObjKind]int{api.Vector: 3})
	counts(t, "in rings", h, refs(3, 3), 10, map[api.ObjKind]int{api.Vector: 4})
}

// The rule of memory: what Count tells can be changed.
func TestCountIsByItself(t *testing.T) {
	h := made(t, []int{1}, nil)
	roots := refs(0)
	one, two := sweep.Count(h, roots), sweep.Count(h, roots)
	one[api.Vector], one[api.Pair] = 99, 1
	want := map[api.ObjKind]int{api.Vector: 2}
	if !maps.Equal(two, want) || !maps.Equal(sweep.Count(h, roots), want) {
		t.Errorf("Count: %v, %v", two, sweep.Count(h, roots))
	}
	none, other := sweep.Count(h, nil), sweep.Count(h, nil)
	none[api.Box] = 1
	if len(other) != 0 || len(sweep.Count(h, nil)) != 0 {
		t.Error("Count of nothing")
	}
}

// 14.2: a nil memory has nothing, whatever is asked.
func TestNilMemory(t *testing.T) {
	asked := func(api.ObjKind) bool {
		t.Error("is is asked")
		return true
	}
	for _, roots := range [][]api.Val{nil, {}, refs(0), nothing(), {number(1), ref(1)}} {
		for v := range sweep.Reach(nil, roots) {
			t.Errorf("Reach: %v", v)
		}
		if l := sweep.List(nil, roots); len(l) != 0 {
			t.Errorf("List: %v", l)
		}
		if n := sweep.Collect(nil, roots); n != 0 {
			t.Errorf("Collect: %d", n)
		}
		if l := sweep.Path(nil, roots, asked); len(l) != 0 {
			t.Errorf("Path: %v", l)
		}
		if l := sweep.Path(nil, roots, nil); len(l) != 0 {
			t.Errorf("Path: %v", l)
		}
		if m := sweep.Count(nil, roots); len(m) != 0 {
			t.Errorf("Count: %v", m)
		}
		if n := sweep.Size(nil, roots); n != 0 {
			t.Errorf("Size: %d", n)
		}
	}
}
