package heap_test

import (
	"fmt"
	"math"
	"math/rand"
	"strings"
	"testing"

	"hibernacle/api"
	"hibernacle/heap"
)

// The chapter's example.
func TestExample(t *testing.T) {
	h := newHeap(t, 100)
	v, e := h.Add(api.Obj{Kind: api.Pair, Vals: []api.Val{{K: api.Int, N: 1}, {K: api.Nil}}})
	if v != (api.Val{K: api.Ref, N: 0}) || e != api.OK {
		t.Fatalf("Add: %v, %d", v, e)
	}
	if x, e := h.At(v, 0); x != (api.Val{K: api.Int, N: 1}) || e != api.OK {
		t.Fatalf("At(0): %v, %d", x, e)
	}
	if x, e := h.At(v, 1); x != (api.Val{}) || e != api.OK {
		t.Fatalf("At(1): %v, %d", x, e)
	}
}

// 13.1: New of limits that may be, and that may not.
func TestNew(t *testing.T) {
	for _, limit := range edges() {
		h, e := heap.New(limit)
		if limit < 1 || limit > 16384 {
			if h != nil || e != api.ErrArg {
				t.Errorf("New(%d): %v, %d", limit, h, e)
			}
			continue
		}
		b := &both{t, h, newPlain(limit)}
		b.check("a new memory")
		if e != api.OK || h.Limit() != limit || h.Live() != 0 {
			t.Errorf("New(%d): %d, Limit %d, Live %d", limit, e, h.Limit(), h.Live())
		}
	}
}

// 13.1: each memory is one by itself.
func TestNewBesideAnother(t *testing.T) {
	h, other := newHeap(t, 5), newHeap(t, 5)
	v, _ := h.Add(pair(1, 2))
	h.Keep(v, 3)
	if other.Live() != 0 || other.Has(v) {
		t.Errorf("another memory has %d objects", other.Live())
	}
	if _, there := other.Find(3); there {
		t.Error("another memory has the number 3")
	}
}

// 13.1: what each kind asks for, by hand.
func TestKindsByHand(t *testing.T) {
	list := []struct {
		kinds              []api.ObjKind
		least, most, bytes int
	}{
		{[]api.ObjKind{api.Pair, api.Closure, api.Error}, 2, 2, 0},
		{[]api.ObjKind{api.Box}, 1, 1, 0},
		{[]api.ObjKind{api.String, api.Bytes}, 0, 0, 4096},
		{[]api.ObjKind{api.Vector, api.Frame, api.Code, api.Values, api.Kont, api.Cont, api.Port, api.Alias}, 0, 256, 0},
		{[]api.ObjKind{-1, api.ObjKinds, api.ObjKinds + 1}, 1, 0, 0},
	}
	for _, x := range list {
		for _, k := range x.kinds {
			for _, n := range []int{0, 1, 2, 3, 255, 256, 257, 5000} {
				for _, bytes := range []int{0, 1, 2, 4095, 4096, 4097, 9000} {
					h := newHeap(t, 1)
					v, e := h.Add(api.Obj{Kind: k, Vals: make([]api.Val, n), Bytes: make([]byte, bytes)})
					want := api.ErrArg
					if x.least <= n && n <= x.most && bytes <= x.bytes {
						want = api.OK
					}
					if e != want || h.Has(v) != (want == api.OK) || h.Live() == 1 != (want == api.OK) {
						t.Errorf("Add of the kind %d, %d values, %d bytes: %v, %d", k, n, bytes, v, e)
					}
				}
			}
		}
	}
}

// 13.1: objects of each kind, with few and many values and bytes.
func TestKinds(t *testing.T) {
	for _, k := range kinds() {
		b := newBoth(t, 200)
		for _, n := range []int{0, 1, 2, 3, 255, 256, 257} {
			for _, bytes := range []int{0, 1, 4095, 4096, 4097} {
				o := api.Obj{Kind: k, Vals: make([]api.Val, n), Bytes: []byte(strings.Repeat("\xfe", bytes))}
				b.ask(fmt.Sprintf("Add of the kind %d, %d values, %d bytes", k, n, bytes), func(m memory) string { return told(m.Add(o)) })
			}
		}
		b.check(fmt.Sprint("objects of the kind ", k))
	}
}

// withSome has objects at the places 0 to 5, but none at 2 and 4; the one at 3
// is away.
func withSome(t *testing.T) *both {
	t.Helper()
	b := newBoth(t, 2000)
	b.add(pair(1, 2))
	b.add(vector(ref(0), ref(0)))
	b.add(vector())
	b.sent(7)
	b.add(text(api.String, "ab"))
	b.add(vector(ref(2), ref(3), ref(4)))
	b.must("Drop", func(m memory) bool { return m.Drop(ref(2)) && m.Drop(ref(4)) })
	b.check("some objects")
	return b
}

// 13.1: values of each kind, in each of an object's values; Refs to places
// with and without an object.
func TestValues(t *testing.T) {
	b := withSome(t)
	for _, x := range append(vals(), ref(2), ref(4), ref(5), ref(6)) {
		what := fmt.Sprintf("Add with %v", x)
		b.ask(what, func(m memory) string { return told(m.Add(vector(x, number(1), number(2)))) })
		b.ask(what, func(m memory) string { return told(m.Add(vector(number(1), number(2), x))) })
		b.ask(what, func(m memory) string { return told(m.Add(api.Obj{Kind: api.Box, Vals: []api.Val{x}})) })
		b.ask(what, func(m memory) string {
			return told(m.Add(api.Obj{Kind: api.Cont, Vals: append(make([]api.Val, 255), x)}))
		})
	}
	b.check("objects with values of each kind")
}

// 13.1: which values may be, by hand.
func TestValuesByHand(t *testing.T) {
	h := newHeap(t, 100)
	v, _ := h.Add(vector())
	for k := api.Nil; k <= api.Eof; k++ {
		for _, n := range []int{math.MinInt, -1, 0, 1, 300, math.MaxInt} {
			if _, e := h.Add(vector(api.Val{K: k, N: n})); e != api.OK {
				t.Errorf("Add with a value of the kind %d, %d: %d", k, n, e)
			}
		}
	}
	if _, e := h.Add(vector(v, v)); e != api.OK {
		t.Errorf("Add with a Ref to an object: %d", e)
	}
	top := h.Live()
	for _, x := range []api.Val{{K: api.Kinds}, {K: api.Kinds + 1}, {K: -1}, ref(-1), ref(top), ref(top + 1), ref(16383), ref(16384), ref(math.MinInt), ref(math.MaxInt)} {
		if got, e := h.Add(vector(x)); got != (api.Val{}) || e != api.ErrArg {
			t.Errorf("Add with %v: %v, %d", x, got, e)
		}
		if h.Has(x) || h.Live() != top {
			t.Errorf("Has(%v): %v; Live: %d", x, h.Has(x), h.Live())
		}
	}
	// An object can't refer to the place that it is to come to.
	h.Drop(v)
	if got, e := h.Add(vector(v)); got != (api.Val{}) || e != api.ErrArg {
		t.Errorf("Add with a Ref to a dropped object: %v, %d", got, e)
	}
}

// 13.1: that an object may not be is told ahead of that there is no room;
// a memory that is full is as it was behind what is refused.
func TestFull(t *testing.T) {
	for _, limit := range []int{1, 2, 3, 100, 16383, 16384} {
		b := newBoth(t, limit)
		for n := range limit {
			v, e := b.h.Add(pair(n, n))
			b.x.at[n] = &thing{obj: pair(n, n), changed: true}
			if v != ref(n) || e != api.OK {
				t.Fatalf("Add of the %d. of %d: %v, %d", n+1, limit, v, e)
			}
		}
		full := func(e api.Errno, o api.Obj) {
			t.Helper()
			if v, got := b.h.Add(o); v != (api.Val{}) || got != e {
				t.Errorf("Add to a full memory: %v, %d, not %d", v, got, e)
			}
		}
		full(api.ErrFull, pair(1, 2))
		full(api.ErrFull, vector(ref(limit-1)))
		full(api.ErrArg, vector(ref(limit)))
		full(api.ErrArg, api.Obj{Kind: api.ObjKinds})
		if v, e := b.h.Away(1); v != (api.Val{}) || e != api.ErrFull {
			t.Errorf("Away(1) of a full memory: %v, %d", v, e)
		}
		b.check("a full memory")
		for _, place := range []int{limit - 1, limit / 2, 0} {
			if !b.h.Drop(ref(place)) {
				t.Errorf("Drop of the place %d: false", place)
			}
			if v, e := b.h.Add(pair(place, place)); v != ref(place) || e != api.OK {
				t.Errorf("Add behind it: %v, %d, not the place %d", v, e, place)
			}
			full(api.ErrFull, pair(1, 2))
		}
		b.check("a full memory, some of it added anew")
	}
}

// 13.1: Add takes the least place without an object, whatever was dropped
// ahead, and in which order.
func TestLeastPlace(t *testing.T) {
	from := rand.New(rand.NewSource(131))
	for range 200 {
		b := newBoth(t, 1+from.Intn(40))
		for range 150 {
			if from.Intn(5) < 3 {
				b.ask("Add", func(m memory) string { return told(m.Add(vector())) })
			} else {
				v := ref(from.Intn(b.x.limit+2) - 1)
				b.ask("Drop", func(m memory) string { return told(m.Drop(v)) })
			}
			if n := from.Intn(60); n < 4 {
				b.ask("Away", func(m memory) string { return told(m.Away(n)) })
			}
		}
		b.check("places that came and went")
	}
}

// 13.1: Drop tells whether there was an object; others may still refer to its
// place, also when another object is there.
func TestDrop(t *testing.T) {
	h := newHeap(t, 10)
	v, _ := h.Add(pair(1, 2))
	w, _ := h.Add(vector(v, v))
	if !h.Drop(v) || h.Drop(v) || h.Has(v) || h.Live() != 1 {
		t.Fatalf("Drop: Has %v, Live %d", h.Has(v), h.Live())
	}
	if x, e := h.At(w, 1); x != v || e != api.OK {
		t.Fatalf("At: %v, %d", x, e)
	}
	if e := h.Set(w, 0, v); e != api.ErrArg {
		t.Fatalf("Set to a dropped one: %d", e)
	}
	if got, e := h.Add(text(api.String, "new")); got != v || e != api.OK {
		t.Fatalf("Add: %v, %d", got, e)
	}
	if x, e := h.At(w, 0); x != v || e != api.OK {
		t.Fatalf("At: %v, %d", x, e)
	}
	if s, e := h.Text(v); s != "new" || e != api.OK || h.Set(w, 0, v) != api.OK {
		t.Fatalf("Text: %q, %d", s, e)
	}
}

// 13.1, 13.3: a dropped object's number is no one's any more, and the object
// that comes to its place has none.
func TestDropOfANumber(t *testing.T) {
	for _, away := range []bool{false, true} {
		b := newBoth(t, 10)
		b.add(vector())
		v := b.kept(pair(1, 2), 9)
		b.ask("Send", func(m memory) string { return told(away && m.Send(v)) })
		b.ask("Drop", func(m memory) string { return told(m.Drop(v)) })
		b.check("dropped")
		if w := b.add(vector()); w != v || b.h.Number(w) != 0 || !b.h.Changed(w) {
			t.Errorf("the new one's number is %d", b.h.Number(w))
		}
		b.check("another one at its place")
		if w := b.kept(vector(), 9); b.h.Number(w) != 9 {
			t.Errorf("the new one's number is %d", b.h.Number(w))
		}
		b.check("another one with its number")
	}
}
