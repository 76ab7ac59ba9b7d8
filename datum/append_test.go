package datum_test

import (
	"fmt"
	"slices"
	"testing"

	"hibernacle/api"
	"hibernacle/datum"
)

// 15.3: Append of lists to all that may be.
func TestAppend(t *testing.T) {
	h := withSome(t, 16384)
	for _, items := range [][]api.Val{nil, numbers(1), numbers(1, 2, 3), {ref(1), null, ref(7), yes}} {
		for _, b := range append(plain(), ref(0), ref(1), ref(2), ref(4), ref(5), ref(6)) {
			rest, end, _ := datum.Chain(h, b)
			a := chain(t, h, items, null)
			live := h.Live()
			v := made(t, "Append")(datum.Append(h, a, b))
			holds(t, fmt.Sprintf("Append of %d to %v", len(items), b), h, v, slices.Concat(items, rest), end)
			is(t, "its end", tail(t, h, v, len(items)), b)
			holds(t, "what it was", h, a, items, null)
			if h.Live() != live+len(items) {
				t.Fatalf("Append of %d: %d new objects", len(items), h.Live()-live)
			}
			if len(items) > 0 {
				set(t, h, v, 0, number(77))
			}
			holds(t, "what it was", h, a, items, null)
		}
	}
}

// 15.3: Append with what goes round behind.
func TestAppendToRound(t *testing.T) {
	h := newHeap(t, 20)
	b := ring(t, h, numbers(3, 4, 5), 1)
	a := chain(t, h, numbers(1, 2), null)
	v := made(t, "Append")(datum.Append(h, a, b))
	round(t, "Append", h, v, numbers(1, 2, 3, 4, 5))
	is(t, "its end", tail(t, h, v, 2), b)
	round(t, "what it was", h, b, numbers(3, 4, 5))
}

// 15.3: Append of Nil is the other one, with room and without.
func TestAppendOfNil(t *testing.T) {
	for _, room := range []int{0, 1} {
		h := withSome(t, 9)
		fill(t, h, room)
		was := state(h)
		for _, b := range append(plain(), ref(0), ref(1), ref(4), ref(7)) {
			is(t, "Append", made(t, "Append")(datum.Append(h, null, b)), b)
		}
		stays(t, "Append", h, was)
	}
}

// 15.3: Append of a list to itself, and to a tail of its own.
func TestAppendToItself(t *testing.T) {
	h := newHeap(t, 30)
	a := chain(t, h, numbers(1, 2, 3), null)
	for n := range 4 {
		v := made(t, "Append")(datum.Append(h, a, tail(t, h, a, n)))
		holds(t, "Append", h, v, slices.Concat(numbers(1, 2, 3), numbers(1, 2, 3)[n:]), null)
		is(t, "its end", tail(t, h, v, 3), tail(t, h, a, n))
		holds(t, "what it was", h, a, numbers(1, 2, 3), null)
	}
	v := made(t, "Append")(datum.Append(h, tail(t, h, a, 1), a))
	holds(t, "Append", h, v, numbers(2, 3, 1, 2, 3), null)
}

// 15.3: Append of what is no list, and to what may not be: ErrArg, with room
// and without, and nothing changes.
func TestAppendRefused(t *testing.T) {
	for _, room := range []int{0, 1, 5} {
		h := withSome(t, 60)
		lists := []api.Val{null, ref(0), ref(1), chain(t, h, numbers(1, 2, 3), null)}
		others := append(plain()[5:], ref(2), ref(4), ref(5), ref(6), ref(7), ref(8), chain(t, h, numbers(1, 2), yes), chain(t, h, numbers(1), ref(7)))
		for k, n := range kinds() {
			others = append(others, add(t, h, api.Obj{Kind: k, Vals: make([]api.Val, n)}))
		}
		fill(t, h, room)
		was := state(h)
		for _, a := range others {
			for _, b := range append(plain(), ref(0), ref(1), ref(60), api.Val{K: -1}) {
				refused(t, fmt.Sprintf("Append of %v", a), api.ErrArg)(datum.Append(h, a, b))
			}
		}
		for _, b := range unmay() {
			for _, a := range append(lists, b) {
				if !h.Has(b) {
					refused(t, fmt.Sprintf("Append to %v", b), api.ErrArg)(datum.Append(h, a, b))
				}
			}
		}
		stays(t, "Append", h, was)
	}
}

// 15.3: Append and Reverse with no room for the last pair, and with just enough.
func TestNoRoom(t *testing.T) {
	for count := 1; count < 6; count++ {
		for short := 1; short <= count; short++ {
			h := newHeap(t, 40)
			a := chain(t, h, numbers(1, 2, 3, 4, 5)[:count], null)
			fill(t, h, count-short)
			was := state(h)
			for _, b := range []api.Val{null, yes, a, ref(39 - count)} {
				refused(t, "Append", api.ErrFull)(datum.Append(h, a, b))
			}
			refused(t, "Reverse", api.ErrFull)(datum.Reverse(h, a))
			stays(t, "no room", h, was)
		}
		h := newHeap(t, 40)
		items := numbers(1, 2, 3, 4, 5)[:count]
		a := chain(t, h, items, null)
		fill(t, h, count)
		v := made(t, "Append, just enough room")(datum.Append(h, a, null))
		holds(t, "Append, just enough room", h, v, items, null)
		for _, p := range tails(t, h, v, count) {
			h.Drop(p)
		}
		v = made(t, "Reverse, just enough room")(datum.Reverse(h, a))
		slices.Reverse(items)
		holds(t, "Reverse, just enough room", h, v, items, null)
	}
}

// 15.3: Reverse of nothing, of one and of many.
func TestReverse(t *testing.T) {
	h := withSome(t, 16384)
	for _, items := range [][]api.Val{nil, numbers(1), numbers(1, 2), {ref(1), null, ref(7), yes, ref(4)}, append(plain(), plain()...)} {
		a := chain(t, h, items, null)
		live := h.Live()
		v := made(t, "Reverse")(datum.Reverse(h, a))
		turned := slices.Clone(items)
		slices.Reverse(turned)
		holds(t, "Reverse", h, v, turned, null)
		holds(t, "what it was", h, a, items, null)
		if h.Live() != live+len(items) {
			t.Fatalf("Reverse of %d: %d new objects", len(items), h.Live()-live)
		}
		again := made(t, "Reverse")(datum.Reverse(h, v))
		holds(t, "Reverse, twice", h, again, items, null)
		if !datum.Alike(h, again, a) {
			t.Fatal("reversed twice it isn't alike itself")
		}
		if len(items) > 0 {
			set(t, h, v, 0, number(77))
			holds(t, "what it was", h, a, items, null)
		}
	}
}

// 15.3: Reverse of thousands.
func TestReverseLong(t *testing.T) {
	h := newHeap(t, 16384)
	items := make([]api.Val, 8000)
	for i := range items {
		items[i] = number(i)
	}
	a := chain(t, h, items, null)
	v := made(t, "Reverse")(datum.Reverse(h, a))
	slices.Reverse(items)
	holds(t, "Reverse", h, v, items, null)
	refused(t, "Reverse", api.ErrFull)(datum.Reverse(h, a))
	refused(t, "Append", api.ErrFull)(datum.Append(h, a, v))
}

// 15.3: Reverse of what is no list: ErrArg, with room and without.
func TestReverseRefused(t *testing.T) {
	for _, room := range []int{0, 1, 5} {
		h := withSome(t, 60)
		others := append(append(plain()[5:], unmay()...), ref(2), ref(4), ref(5), ref(6), ref(7), ref(8), chain(t, h, numbers(1, 2), yes), chain(t, h, numbers(1), ref(7)))
		for k, n := range kinds() {
			others = append(others, add(t, h, api.Obj{Kind: k, Vals: make([]api.Val, n)}))
		}
		h.Drop(ref(3))
		fill(t, h, room)
		was := state(h)
		for _, v := range others {
			refused(t, fmt.Sprintf("Reverse of %v", v), api.ErrArg)(datum.Reverse(h, v))
		}
		stays(t, "Reverse", h, was)
	}
}

// 15.3, 15.4: a Nil with another number ends a list, too, and what is reversed
// twice is alike.
func TestReverseOfOtherNil(t *testing.T) {
	h := newHeap(t, 20)
	for _, end := range []api.Val{{K: api.Nil, N: 1}, {K: api.Nil, N: -5}} {
		for n := range 3 {
			a := chain(t, h, numbers(1, 2)[:n], end)
			v := made(t, "Reverse")(datum.Reverse(h, a))
			again := made(t, "Reverse")(datum.Reverse(h, v))
			list, is := datum.List(h, v)
			if len(list) != n || !is || !datum.Alike(h, again, a) {
				t.Fatalf("Reverse: %v, %v", list, is)
			}
		}
	}
}
