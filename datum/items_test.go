package datum_test

import (
	"fmt"
	"testing"

	"hibernacle/api"
	"hibernacle/datum"
	"hibernacle/heap"
)

// tails are the first so many pairs of a chain.
func tails(t *testing.T, h *heap.Heap, v api.Val, count int) []api.Val {
	t.Helper()
	var list []api.Val
	for n := range count {
		list = append(list, tail(t, h, v, n))
	}
	return list
}

// items asks what Items tells, twice over one function.
func items(t *testing.T, what string, h *heap.Heap, v api.Val, pairs, want []api.Val) {
	t.Helper()
	was := state(h)
	all := datum.Items(h, v)
	for range 2 {
		p, x := told(all)
		same(t, what+": the pairs", p, pairs)
		same(t, what+": the items", x, want)
	}
	stays(t, what, h, was)
}

// 15.3: Items of chains that end, anyhow, and of what is none.
func TestItems(t *testing.T) {
	h := withSome(t, 16384)
	for _, end := range append(append(plain(), unmay()...), ref(4), ref(5), ref(6)) {
		items(t, "no pair", h, end, nil, nil)
	}
	for k, n := range kinds() {
		items(t, "no pair", h, add(t, h, api.Obj{Kind: k, Vals: []api.Val{ref(1), ref(1)}[:n]}), nil, nil)
	}
	for _, end := range []api.Val{null, {K: api.Nil, N: 5}, yes, ref(4), ref(5)} {
		list := []api.Val{number(1), ref(1), null, number(1), ref(5)}
		v := chain(t, h, list, end)
		items(t, "a chain", h, v, tails(t, h, v, 5), list)
	}
}

// 15.3: Items of chains that go round tell each pair once.
func TestItemsRound(t *testing.T) {
	for count := 1; count < 6; count++ {
		for back := range count {
			h := newHeap(t, 10)
			list := numbers(1, 2, 3, 4, 5)[:count]
			v := ring(t, h, list, back)
			what := fmt.Sprintf("of %d, back to %d", count, back)
			items(t, what, h, v, tails(t, h, v, count), list)
			items(t, what+", from there", h, tail(t, h, v, back), tails(t, h, tail(t, h, v, back), count-back), list[back:])
		}
	}
}

// 15.3: Items left amid the loop, at each place, and two loops over one
// function, one in the other.
func TestItemsLeft(t *testing.T) {
	h := newHeap(t, 10)
	v := ring(t, h, numbers(1, 2, 3, 4), 1)
	all := datum.Items(h, v)
	for stop := range 4 {
		var pairs, got []api.Val
		for p, x := range all {
			pairs, got = append(pairs, p), append(got, x)
			if len(got) > stop {
				break
			}
		}
		same(t, "the pairs", pairs, tails(t, h, v, stop+1))
		same(t, "the items", got, numbers(1, 2, 3, 4)[:stop+1])
	}
	n := 0
	for range all {
		for _, x := range all {
			if x != number(n%4+1) {
				t.Fatalf("the %d. item: %v", n, x)
			}
			n++
		}
	}
	if n != 16 {
		t.Fatalf("%d items in all", n)
	}
}

// 15.3, and the rule that what is told is new memory: Items tells what the
// chain was when it was asked for, whatever memory is changed to later or amid
// the loop.
func TestItemsStay(t *testing.T) {
	h := newHeap(t, 10)
	v := chain(t, h, numbers(1, 2, 3, 4), null)
	all, pairs := datum.Items(h, v), tails(t, h, v, 4)
	var got []api.Val
	for p, x := range all {
		got = append(got, x)
		switch len(got) {
		case 1:
			set(t, h, p, 1, yes)
			set(t, h, pairs[1], 0, number(9))
		case 2:
			set(t, h, p, 1, p)
			h.Drop(pairs[2])
		case 3:
			add(t, h, pair(number(8), v))
			set(t, h, pairs[3], 1, v)
		}
	}
	same(t, "amid the loop", got, numbers(1, 2, 3, 4))
	got, list := told(all)
	same(t, "later: the pairs", got, pairs)
	same(t, "later: the items", list, numbers(1, 2, 3, 4))
	items(t, "anew", h, v, pairs[:1], numbers(1))
	if !h.Become(newHeap(t, 1)) {
		t.Fatal("Become: false")
	}
	got, _ = told(all)
	same(t, "without them", got, pairs)
}
