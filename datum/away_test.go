package datum_test

import (
	"fmt"
	"testing"

	"hibernacle/api"
	"hibernacle/datum"
	"hibernacle/heap"
)

// lost are the ways in which an object that is away can't be fetched.
func lost() map[string]func(n int) (api.Obj, api.Errno) {
	return map[string]func(n int) (api.Obj, api.Errno){
		"by nothing":            nil,
		"by an error":           func(n int) (api.Obj, api.Errno) { return pair(number(1), null), api.ErrDown },
		"what may not be":       func(n int) (api.Obj, api.Errno) { return pair(number(1), ref(-1)), api.OK },
		"a pair of three":       func(n int) (api.Obj, api.Errno) { return api.Obj{Kind: api.Pair, Vals: numbers(1, 2, 3)}, api.OK },
		"something of no kind":  func(n int) (api.Obj, api.Errno) { return api.Obj{Kind: api.ObjKinds}, api.OK },
		"what was never stored": func(n int) (api.Obj, api.Errno) { return api.Obj{}, api.ErrNone },
	}
}

// 15.1: Pair of what is away, and is fetched, or can't be.
func TestPairAway(t *testing.T) {
	for what, by := range lost() {
		h := newHeap(t, 10)
		v := add(t, h, pair(number(1), yes))
		send(t, h, v, 1)
		h.Fetch(by)
		if a, b, is := datum.Pair(h, v); a != null || b != null || is {
			t.Fatalf("%s: Pair: %v, %v, %v", what, a, b, is)
		}
		h.Fetch(func(n int) (api.Obj, api.Errno) { return pair(number(n), no), api.OK })
		if a, b, is := datum.Pair(h, v); a != number(1) || b != no || !is {
			t.Fatalf("fetched: Pair: %v, %v, %v", a, b, is)
		}
		set(t, h, v, 0, number(4))
		if a, b, is := datum.Pair(h, v); a != number(4) || b != no || !is {
			t.Fatalf("set: Pair: %v, %v, %v", a, b, is)
		}
	}
	for k, n := range kinds() {
		h := newHeap(t, 10)
		v := add(t, h, api.Obj{Kind: k, Vals: numbers(1, 2)[:n]})
		sendAll(t, h)
		if a, b, is := datum.Pair(h, v); a != null || b != null || is {
			t.Fatalf("the kind %d: Pair: %v, %v, %v", k, a, b, is)
		}
	}
}

// 15.1, 15.3: a chain with a pair amid that can't be fetched ends there; it is
// no list.
func TestChainAway(t *testing.T) {
	for what, by := range lost() {
		for n := range 4 {
			h := newHeap(t, 20)
			entry := add(t, h, pair(number(3), number(4)))
			all := []api.Val{number(1), number(2), entry, number(5)}
			v := chain(t, h, all, null)
			pairs, gone := tails(t, h, v, n), tail(t, h, v, n)
			send(t, h, gone, 1)
			h.Fetch(by)
			what := fmt.Sprintf("%s, at %d", what, n)
			items(t, what, h, v, pairs, all[:n])
			got, end, ends := datum.Chain(h, v)
			same(t, what+": Chain", got, all[:n])
			list, is := datum.List(h, v)
			if end != gone || !ends || len(list) != 0 || is {
				t.Fatalf("%s: Chain: %v, %v; List: %v, %v", what, end, ends, list, is)
			}
			was := state(h)
			refused(t, what, api.ErrArg)(datum.Append(h, v, null))
			refused(t, what, api.ErrArg)(datum.Reverse(h, v))
			for i, x := range all {
				want := no
				if i < n {
					want = pairs[i]
				}
				if got := datum.Member(h, x, v, equal); got != want {
					t.Fatalf("%s: Member(%v): %v, not %v", what, x, got, want)
				}
			}
			if got := datum.Assoc(h, number(3), v, equal); (got == entry) != (n > 2) || n < 3 && got != no {
				t.Fatalf("%s: Assoc: %v", what, got)
			}
			stays(t, what, h, was)
		}
	}
}

// 15.3: an item of Assoc's that can't be fetched is passed by, one that is
// fetched isn't.
func TestAssocAway(t *testing.T) {
	for what, by := range lost() {
		h := newHeap(t, 20)
		one, two := add(t, h, pair(number(1), yes)), add(t, h, pair(number(1), no))
		v := chain(t, h, []api.Val{one, two}, null)
		send(t, h, one, 1)
		h.Fetch(by)
		is(t, what, datum.Assoc(h, number(1), v, equal), two)
		is(t, what, datum.Assoc(h, yes, v, equal), no)
		h.Fetch(func(n int) (api.Obj, api.Errno) { return pair(number(n), yes), api.OK })
		is(t, "fetched", datum.Assoc(h, number(1), v, equal), one)
	}
}

// 15.2: objects that can't be fetched are alike just if they are the same.
func TestAlikeAway(t *testing.T) {
	for what, by := range lost() {
		h := newHeap(t, 20)
		one, two, three := add(t, h, pair(number(1), null)), add(t, h, pair(number(1), null)), add(t, h, pair(number(1), null))
		a, b, c := add(t, h, vector(one)), add(t, h, vector(one)), add(t, h, vector(two))
		send(t, h, one, 1)
		send(t, h, two, 2)
		h.Fetch(by)
		alike(t, what+": both away", h, one, two, false)
		alike(t, what+": one away", h, one, three, false)
		alike(t, what+": round the same", h, a, b, true)
		alike(t, what+": round two", h, a, c, false)
		alike(t, what+": a value", h, one, null, false)
		h.Fetch(func(n int) (api.Obj, api.Errno) { return pair(number(1), null), api.OK })
		if !datum.Alike(h, a, c) || !datum.Alike(h, three, two) || !datum.Alike(h, three, one) {
			t.Fatal("fetched: not alike")
		}
	}
}

// 15.1 to 15.3: what is away is handed on as it is: nothing is fetched.
func TestAwayHandedOn(t *testing.T) {
	h := newHeap(t, 60)
	v := add(t, h, pair(number(1), null))
	send(t, h, v, 1)
	w := made(t, "Away")(h.Away(2))
	list := made(t, "Build")(datum.Build(h, []api.Val{v, w, v}, w))
	made(t, "Cons")(datum.Cons(h, v, w))
	made(t, "Vector")(datum.Vector(h, []api.Val{w, v}))
	is(t, "Build", made(t, "Build")(datum.Build(h, nil, w)), w)
	is(t, "Append", made(t, "Append")(datum.Append(h, null, v)), v)
	a := chain(t, h, []api.Val{v, w}, null)
	made(t, "Append")(datum.Append(h, a, w))
	holds(t, "Reverse", h, made(t, "Reverse")(datum.Reverse(h, a)), []api.Val{w, v}, null)
	is(t, "Member", datum.Member(h, w, a, equal), tail(t, h, a, 1))
	items(t, "Items", h, a, tails(t, h, a, 2), []api.Val{v, w})
	alike(t, "the same", h, w, w, true)
	is(t, "the end", tail(t, h, list, 3), w)
	if !h.IsAway(v) || !h.IsAway(w) {
		t.Fatal("one of them isn't away any more")
	}
}

// answers is what a memory with some tells, by all calls that tell something of
// what is there.
func answers(h *heap.Heap, vals []api.Val) string {
	var all string
	for _, v := range vals {
		a, b, pair := datum.Pair(h, v)
		items, end, ends := datum.Chain(h, v)
		list, is := datum.List(h, v)
		p, x := told(datum.Items(h, v))
		all += fmt.Sprintln(v, a, b, pair, items, end, ends, list, is, p, x)
		for _, w := range vals {
			all += fmt.Sprintln(datum.Alike(h, v, w), datum.Member(h, w, v, equal), datum.Assoc(h, w, v, equal))
		}
	}
	return all
}

// P4: whether objects are sent away and fetched again changes no answer.
func TestAwayIsNotTold(t *testing.T) {
	for _, but := range [][]api.ObjKind{nil, {api.Pair}, {api.String, api.Vector}} {
		h := withSome(t, 40)
		add(t, h, vector(ref(1), ref(7), ref(4)))
		chain(t, h, []api.Val{ref(2), ref(1), number(1)}, null)
		ring(t, h, []api.Val{ref(1), ref(2)}, 0)
		add(t, h, text(api.String, "some"))
		vals := append(plain(), unmay()...)
		for v := range h.All() {
			vals = append(vals, v)
		}
		was := answers(h, vals)
		fetched := sendAll(t, h, but...)
		if now := answers(h, vals); now != was || fetched() == 0 {
			t.Fatalf("%d are fetched: %s, not %s", fetched(), now, was)
		}
		for place := range h.Limit() {
			h.Send(ref(place))
		}
		v := made(t, "Append")(datum.Append(h, ref(1), ref(2)))
		got, end, ends := datum.Chain(h, v)
		same(t, "Append", got, numbers(1, 2, 4))
		if end != number(5) || !ends {
			t.Fatalf("Append: %v, %v", end, ends)
		}
		for place := range h.Limit() {
			h.Send(ref(place))
		}
		holds(t, "Reverse", h, made(t, "Reverse")(datum.Reverse(h, ref(1))), numbers(2, 1), null)
	}
}
