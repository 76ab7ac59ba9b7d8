package datum_test

import (
	"fmt"
	"slices"
	"testing"

	"hibernacle/api"
	"hibernacle/datum"
	"hibernacle/heap"
)

// round asks that a chain goes round, with these items.
func round(t *testing.T, what string, h *heap.Heap, v api.Val, items []api.Val) {
	t.Helper()
	got, end, ends := datum.Chain(h, v)
	same(t, what+": Chain", got, items)
	if end != null || ends {
		t.Fatalf("%s: Chain: %v, %v", what, end, ends)
	}
	list, is := datum.List(h, v)
	same(t, what+": List", list, nil)
	if is {
		t.Fatalf("%s: List: true", what)
	}
}

// 15.1: Chain and List of proper lists and of chains with other ends.
func TestChain(t *testing.T) {
	h := withSome(t, 16384)
	was := state(h)
	ends := append(append(plain(), unmay()...), ref(4), ref(5), ref(6))
	for _, end := range ends {
		// Without a pair they are their own end, whatever they are.
		holds(t, fmt.Sprintf("the end %v", end), h, end, nil, end)
	}
	stays(t, "Chain", h, was)
	for _, end := range append(plain(), ref(4), ref(5), ref(6)) {
		for _, items := range [][]api.Val{numbers(1), numbers(1, 2), {null, null}, {ref(1), ref(5), ref(7), yes}, ends[:20]} {
			v := chain(t, h, items, end)
			was := state(h)
			holds(t, fmt.Sprintf("with the end %v", end), h, v, items, end)
			stays(t, "Chain", h, was)
		}
	}
}

// 15.1: each tail of a chain is one.
func TestChainFromAmid(t *testing.T) {
	h := newHeap(t, 10)
	items := numbers(1, 2, 3, 4, 5)
	v := chain(t, h, items, null)
	for n := range 6 {
		holds(t, "a tail", h, tail(t, h, v, n), items[n:], null)
	}
	set(t, h, tail(t, h, v, 2), 1, yes)
	holds(t, "cut", h, v, items[:3], yes)
	holds(t, "behind the cut", h, tail(t, h, v, 3), nil, yes)
}

// 15.1: items that refer to pairs are one item each.
func TestChainOfChains(t *testing.T) {
	h := newHeap(t, 20)
	one := chain(t, h, numbers(1, 2), null)
	two := chain(t, h, []api.Val{one, one, number(3)}, one)
	holds(t, "of chains", h, two, []api.Val{one, one, number(3), number(1), number(2)}, null)
	set(t, h, one, 0, one)
	set(t, h, two, 0, two)
	holds(t, "of itself", h, two, []api.Val{two, one, number(3), one, number(2)}, null)
}

// 15.1: the items of a chain may be what may not be in memory any more, and its
// end what refers to nothing.
func TestChainOfWhatWasDropped(t *testing.T) {
	h := newHeap(t, 10)
	gone := add(t, h, vector())
	v := chain(t, h, []api.Val{number(1), gone, number(2)}, gone)
	h.Drop(gone)
	holds(t, "dropped", h, v, []api.Val{number(1), gone, number(2)}, gone)
	last := tail(t, h, v, 1)
	h.Drop(tail(t, h, v, 2))
	h.Drop(last)
	holds(t, "cut", h, v, numbers(1), last)
}

// 15.1: chains that go round, to their first pair, to one amid them, and to
// their last one.
func TestChainRound(t *testing.T) {
	for _, count := range []int{1, 2, 3, 7} {
		for back := range count {
			h := newHeap(t, 20)
			items := numbers(1, 2, 3, 4, 5, 6, 7)[:count]
			v := ring(t, h, items, back)
			was := state(h)
			what := fmt.Sprintf("of %d, back to %d", count, back)
			round(t, what, h, v, items)
			for n := range count {
				want := items[n:]
				if n > back {
					want = slices.Concat(items[n:], items[back:n])
				}
				round(t, what+", from amid", h, tail(t, h, v, n), want)
			}
			ahead := chain(t, h, []api.Val{yes, no}, v)
			round(t, what+", with more ahead", h, ahead, append([]api.Val{yes, no}, items...))
			h.Drop(ahead)
			h.Drop(ref(ahead.N - 1))
			stays(t, "Chain", h, was)
		}
	}
}

// 15.1: chains of ten thousand pairs, that end and that go round.
func TestChainLong(t *testing.T) {
	h := newHeap(t, 16384)
	items := make([]api.Val, 10000)
	for i := range items {
		items[i] = number(i)
	}
	v := chain(t, h, items, null)
	holds(t, "ten thousand", h, v, items, null)
	last := tail(t, h, v, 9999)
	for _, back := range []int{0, 1, 5000, 9998, 9999} {
		set(t, h, last, 1, tail(t, h, v, back))
		round(t, "ten thousand", h, v, items)
		_, got := told(datum.Items(h, v))
		same(t, "Items", got, items)
	}
	set(t, h, last, 1, yes)
	holds(t, "ten thousand", h, v, items, yes)
}

// 15.1: Chain and List of what is no pair.
func TestChainOfNone(t *testing.T) {
	h := withSome(t, 40)
	for k, n := range kinds() {
		v := add(t, h, api.Obj{Kind: k, Vals: []api.Val{number(1), ref(1)}[:n]})
		holds(t, fmt.Sprintf("the kind %d", k), h, v, nil, v)
	}
	if l, is := datum.List(h, null); len(l) != 0 || !is {
		t.Fatalf("List of Nil: %v, %v", l, is)
	}
	if l, is := datum.List(h, ref(4)); len(l) != 0 || is {
		t.Fatalf("List of a String: %v, %v", l, is)
	}
}

// The rule of memory: what Chain and List tell is by itself.
func TestChainIsByItself(t *testing.T) {
	h := newHeap(t, 10)
	v := chain(t, h, numbers(1, 2, 3), null)
	one, _, _ := datum.Chain(h, v)
	two, _ := datum.List(h, v)
	three, _ := datum.List(h, v)
	one[0], two[1] = ref(9), ref(8)
	_ = append(one[:1], ref(7))
	set(t, h, v, 0, number(6))
	same(t, "Chain", one, []api.Val{ref(9), ref(7), number(3)})
	same(t, "List", two, []api.Val{number(1), ref(8), number(3)})
	same(t, "List, once more", three, numbers(1, 2, 3))
	holds(t, "memory", h, v, numbers(6, 2, 3), null)
}
