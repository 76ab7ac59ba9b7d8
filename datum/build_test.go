package datum_test

import (
	"fmt"
	"slices"
	"strings"
	"testing"

	"hibernacle/api"
	"hibernacle/datum"
)

// The chapter's example.
func TestExample(t *testing.T) {
	h := newHeap(t, 20)
	l := made(t, "Build")(datum.Build(h, numbers(1, 2), null))
	holds(t, "Build", h, l, numbers(1, 2), null)
	m := made(t, "Append")(datum.Append(h, l, l))
	holds(t, "Append", h, m, numbers(1, 2, 1, 2), null)
	holds(t, "what was appended to", h, l, numbers(1, 2), null)
}

// 15.1: Cons of all values that may be is a new pair of them.
func TestCons(t *testing.T) {
	h := withSome(t, 9000)
	list := append(plain(), ref(0), ref(1), ref(2), ref(4), ref(5), ref(6), ref(7), ref(8))
	for _, a := range list {
		for _, b := range list {
			live := h.Live()
			v := made(t, "Cons")(datum.Cons(h, a, b))
			o, e := h.Obj(v)
			if e != api.OK || o.Kind != api.Pair || !slices.Equal(o.Vals, []api.Val{a, b}) || len(o.Bytes) != 0 || h.Live() != live+1 {
				t.Fatalf("Cons(%v, %v): %v, %v, %d; Live: %d", a, b, v, o, e, h.Live())
			}
			if x, y, is := datum.Pair(h, v); x != a || y != b || !is {
				t.Fatalf("Pair of Cons(%v, %v): %v, %v, %v", a, b, x, y, is)
			}
		}
	}
}

// 15.1: Cons twice of the same values is two pairs.
func TestConsTwice(t *testing.T) {
	h := newHeap(t, 5)
	one := made(t, "Cons")(datum.Cons(h, number(1), null))
	two := made(t, "Cons")(datum.Cons(h, number(1), null))
	if one == two {
		t.Fatalf("Cons, twice: %v", one)
	}
	set(t, h, one, 0, number(2))
	holds(t, "the other one", h, two, numbers(1), null)
}

// 15.1: Cons of what may not be, also where there is no room; nothing changes.
func TestConsRefused(t *testing.T) {
	for _, room := range []int{0, 1, 2, 9} {
		h := withSome(t, 20)
		fill(t, h, room)
		was := state(h)
		for _, bad := range unmay() {
			if h.Has(bad) {
				continue
			}
			what := fmt.Sprintf("Cons of %v", bad)
			for _, other := range append(plain(), ref(0), bad) {
				refused(t, what, api.ErrArg)(datum.Cons(h, bad, other))
				refused(t, what, api.ErrArg)(datum.Cons(h, other, bad))
			}
		}
		stays(t, "Cons", h, was)
	}
}

// 15.1: Cons in a memory that is full, and in one with room for one.
func TestConsFull(t *testing.T) {
	h := withSome(t, 9)
	v := made(t, "Cons")(datum.Cons(h, ref(0), ref(1)))
	is(t, "the last place", v, ref(3))
	was := state(h)
	refused(t, "Cons", api.ErrFull)(datum.Cons(h, number(1), null))
	refused(t, "Cons", api.ErrFull)(datum.Cons(h, ref(3), ref(3)))
	refused(t, "Cons", api.ErrArg)(datum.Cons(h, number(1), ref(9)))
	stays(t, "Cons", h, was)
}

// 15.1: Pair of pairs, and of all that is none.
func TestPair(t *testing.T) {
	h := withSome(t, 40)
	pairs := map[int][2]api.Val{0: {number(2), null}, 1: {number(1), ref(0)}, 2: {number(4), number(5)}, 7: {number(7), ref(8)}, 8: {number(8), ref(7)}}
	for place, want := range pairs {
		if a, b, is := datum.Pair(h, ref(place)); a != want[0] || b != want[1] || !is {
			t.Fatalf("Pair at %d: %v, %v, %v", place, a, b, is)
		}
	}
	others := append(append(plain(), unmay()...), ref(4), ref(5), ref(6))
	for place := range 9 {
		others = append(others, number(place), api.Val{K: api.Bool, N: place})
	}
	h.Drop(ref(3))
	was := state(h)
	for _, v := range others {
		if a, b, is := datum.Pair(h, v); a != null || b != null || is {
			t.Fatalf("Pair(%v): %v, %v, %v", v, a, b, is)
		}
	}
	stays(t, "Pair", h, was)
	for k, n := range kinds() {
		v := add(t, h, api.Obj{Kind: k, Vals: numbers(8, 9)[:n]})
		if a, b, is := datum.Pair(h, v); a != null || b != null || is {
			t.Fatalf("Pair of the kind %d: %v, %v, %v", k, a, b, is)
		}
	}
}

// 15.1: Build of some items with each end, none of them included.
func TestBuild(t *testing.T) {
	h := withSome(t, 16384)
	ends := append(plain(), ref(0), ref(1), ref(2), ref(4), ref(5), ref(7))
	lists := [][]api.Val{nil, {}, numbers(9), numbers(1, 2, 3), ends, {ref(4), ref(4), yes, no, null, null}}
	for _, end := range ends {
		rest, last, ends := datum.Chain(h, end)
		if !ends {
			// What begins a chain that goes round is an end, too.
			v := made(t, "Build")(datum.Build(h, numbers(1), end))
			is(t, "its end", tail(t, h, v, 1), end)
			continue
		}
		for _, l := range lists {
			live := h.Live()
			v := made(t, "Build")(datum.Build(h, l, end))
			holds(t, fmt.Sprintf("Build of %d with %v", len(l), end), h, v, append(slices.Clone(l), rest...), last)
			is(t, "its end", tail(t, h, v, len(l)), end)
			if h.Live() != live+len(l) {
				t.Fatalf("Build of %d: %d new objects", len(l), h.Live()-live)
			}
		}
	}
}

// 15.1: Build of nothing is its end, with room and without.
func TestBuildOfNothing(t *testing.T) {
	for _, room := range []int{0, 1} {
		h := withSome(t, 9)
		fill(t, h, room)
		was := state(h)
		for _, l := range [][]api.Val{nil, {}, numbers(1)[:0]} {
			for _, end := range append(plain(), ref(0), ref(2), ref(4), ref(7)) {
				is(t, "Build", made(t, "Build")(datum.Build(h, l, end)), end)
			}
			for _, end := range unmay() {
				if !h.Has(end) {
					refused(t, "Build", api.ErrArg)(datum.Build(h, l, end))
				}
			}
		}
		stays(t, "Build", h, was)
	}
}

// 15.1: Build with an item, or an end, that may not be; nothing of what was
// begun is left, and of two errors it is ErrArg.
func TestBuildRefused(t *testing.T) {
	for _, room := range []int{0, 1, 2, 3, 8} {
		h := withSome(t, 20)
		h.Drop(ref(8))
		h.Drop(ref(7))
		fill(t, h, room)
		was := state(h)
		for _, bad := range unmay() {
			if h.Has(bad) {
				continue
			}
			what := fmt.Sprintf("Build with %v, room for %d", bad, room)
			for n := range 5 {
				l := numbers(1, 2, 3, 4)[:n]
				refused(t, what, api.ErrArg)(datum.Build(h, l, bad))
				for at := range l {
					l := slices.Clone(l)
					l[at] = bad
					refused(t, what, api.ErrArg)(datum.Build(h, l, null))
					refused(t, what, api.ErrArg)(datum.Build(h, l, ref(0)))
					refused(t, what, api.ErrArg)(datum.Build(h, l, bad))
				}
			}
		}
		stays(t, "Build", h, was)
	}
}

// 15.1: an item, or the end, that refers to a place where a pair would come may
// not be.
func TestBuildOfWhatWouldCome(t *testing.T) {
	for place := range 4 {
		h := newHeap(t, 10)
		for at := range 4 {
			l := numbers(1, 2, 3, 4)
			l[at] = ref(place)
			refused(t, "Build", api.ErrArg)(datum.Build(h, l, null))
		}
		refused(t, "Build", api.ErrArg)(datum.Build(h, numbers(1, 2, 3, 4), ref(place)))
		if h.Live() != 0 {
			t.Fatalf("Live: %d", h.Live())
		}
	}
}

// 15.1: Build without room for all, by one and by many.
func TestBuildFull(t *testing.T) {
	for room := range 5 {
		h := withSome(t, 30)
		fill(t, h, room)
		was := state(h)
		for _, n := range []int{room + 1, room + 2, 40, 16384, 20000} {
			refused(t, "Build", api.ErrFull)(datum.Build(h, make([]api.Val, n), null))
			refused(t, "Build", api.ErrFull)(datum.Build(h, make([]api.Val, n), ref(0)))
			refused(t, "Build", api.ErrArg)(datum.Build(h, make([]api.Val, n), ref(30)))
			refused(t, "Build", api.ErrArg)(datum.Build(h, append(make([]api.Val, n), ref(30)), null))
		}
		stays(t, "Build", h, was)
		v := made(t, "Build")(datum.Build(h, make([]api.Val, room), null))
		holds(t, "Build", h, v, make([]api.Val, room), null)
		if h.Live() != 30 {
			t.Fatalf("Live: %d", h.Live())
		}
	}
}

// 15.1: Build of as many as a memory may have, and of one more.
func TestBuildOfAll(t *testing.T) {
	for _, limit := range []int{1, 2, 4096, 4097, 16384} {
		h := newHeap(t, limit)
		l := make([]api.Val, limit+1)
		for i := range l {
			l[i] = number(i)
		}
		refused(t, "Build", api.ErrFull)(datum.Build(h, l, null))
		if h.Live() != 0 {
			t.Fatalf("Live: %d", h.Live())
		}
		v := made(t, "Build")(datum.Build(h, l[:limit], null))
		holds(t, "Build", h, v, l[:limit], null)
		refused(t, "Build", api.ErrFull)(datum.Build(h, l[:1], v))
		is(t, "Build", made(t, "Build")(datum.Build(h, nil, v)), v)
	}
}

// 15.1: Build uses places that are free amid others.
func TestBuildAmidOthers(t *testing.T) {
	h := newHeap(t, 10)
	fill(t, h, 0)
	for _, place := range []int{1, 4, 5, 8} {
		h.Drop(ref(place))
	}
	v := made(t, "Build")(datum.Build(h, []api.Val{ref(0), ref(2), ref(9)}, ref(3)))
	holds(t, "Build", h, v, []api.Val{ref(0), ref(2), ref(9)}, ref(3))
	refused(t, "Build", api.ErrFull)(datum.Build(h, numbers(1, 2), null))
}

// 15.2: String of nothing, of any bytes, of the longest that may be, and of one
// more.
func TestString(t *testing.T) {
	h := newHeap(t, 20)
	for _, s := range []string{"", "a", "some text", "\x00", "\x7f\x80\xff", "\xe2\x82\xac", strings.Repeat("ab", 2048)} {
		v := made(t, "String")(datum.String(h, s))
		o, e := h.Obj(v)
		if e != api.OK || o.Kind != api.String || string(o.Bytes) != s || len(o.Vals) != 0 {
			t.Fatalf("String(%q): %v, %d", s, o, e)
		}
	}
	was := state(h)
	refused(t, "one byte more", api.ErrArg)(datum.String(h, strings.Repeat("a", 4097)))
	fill(t, h, 0)
	refused(t, "one byte more, full", api.ErrArg)(datum.String(h, strings.Repeat("a", 4097)))
	refused(t, "full", api.ErrFull)(datum.String(h, ""))
	refused(t, "full", api.ErrFull)(datum.String(h, "a"))
	for h.Live() > 7 {
		h.Drop(ref(h.Live() - 1))
	}
	stays(t, "String", h, was)
}

// 15.2: Vector of nothing, of any values, of the longest that may be, and of
// one more.
func TestVector(t *testing.T) {
	h := withSome(t, 20)
	long := make([]api.Val, 257)
	for i := range long {
		long[i] = number(i)
	}
	for _, l := range [][]api.Val{nil, {}, numbers(1), append(plain(), ref(0), ref(4), ref(5), ref(5)), long[:256]} {
		v := made(t, "Vector")(datum.Vector(h, l))
		o, e := h.Obj(v)
		if e != api.OK || o.Kind != api.Vector || !slices.Equal(o.Vals, l) || len(o.Bytes) != 0 {
			t.Fatalf("Vector of %d: %v, %d", len(l), o, e)
		}
	}
	h.Drop(ref(3))
	was := state(h)
	refused(t, "one value more", api.ErrArg)(datum.Vector(h, long))
	for _, bad := range []api.Val{ref(3), ref(-1), ref(20), {K: api.Kinds}, {K: -1}} {
		for at := range 3 {
			l := numbers(1, 2, 3)
			l[at] = bad
			refused(t, "a bad value", api.ErrArg)(datum.Vector(h, l))
		}
	}
	stays(t, "Vector", h, was)
	fill(t, h, 0)
	refused(t, "full", api.ErrFull)(datum.Vector(h, nil))
	refused(t, "full", api.ErrFull)(datum.Vector(h, numbers(1)))
	refused(t, "one value more, full", api.ErrArg)(datum.Vector(h, long))
	refused(t, "a bad value, full", api.ErrArg)(datum.Vector(h, []api.Val{ref(20)}))
}

// The rule of memory: what was handed in is neither changed nor kept.
func TestHandedIn(t *testing.T) {
	h := newHeap(t, 20)
	l := append(make([]api.Val, 0, 10), numbers(1, 2, 3)...)
	list := made(t, "Build")(datum.Build(h, l, number(4)))
	vec := made(t, "Vector")(datum.Vector(h, l))
	same(t, "handed in", l, numbers(1, 2, 3))
	same(t, "behind what was handed in", l[3:5], make([]api.Val, 2))
	l[0], l[2] = number(9), ref(99)
	_ = append(l, ref(98))
	holds(t, "Build", h, list, numbers(1, 2, 3), number(4))
	o, _ := h.Obj(vec)
	same(t, "Vector", o.Vals, numbers(1, 2, 3))
	set(t, h, list, 0, number(8))
	set(t, h, vec, 1, number(8))
	same(t, "handed in", l, []api.Val{number(9), number(2), ref(99)})
}
