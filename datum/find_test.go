package datum_test

import (
	"fmt"
	"testing"

	"hibernacle/api"
	"hibernacle/datum"
)

// equal tells whether two values are the same.
func equal(a, b api.Val) bool { return a == b }

// 15.3: Member finds the first pair of several, the first, one amid and the
// last; and Bool 0 of none.
func TestMember(t *testing.T) {
	h := withSome(t, 40)
	items := []api.Val{number(1), yes, ref(4), number(1), ref(1), yes, null, number(2)}
	first := map[api.Val]int{number(1): 0, yes: 1, ref(4): 2, ref(1): 4, null: 6, number(2): 7}
	for _, end := range []api.Val{null, yes, ref(4), number(3)} {
		v := chain(t, h, items, end)
		was := state(h)
		for x, n := range first {
			is(t, fmt.Sprintf("Member of %v", x), datum.Member(h, x, v, equal), tail(t, h, v, n))
		}
		for _, x := range []api.Val{number(3), no, ref(0), v, ref(-1), {K: api.Kinds}, {K: api.Char, N: 1}} {
			is(t, fmt.Sprintf("Member of %v", x), datum.Member(h, x, v, equal), no)
		}
		is(t, "Member behind the first one", datum.Member(h, number(1), tail(t, h, v, 1), equal), tail(t, h, v, 3))
		stays(t, "Member", h, was)
	}
}

// 15.3: Member and Assoc in what is no pair find none, even what it is itself.
func TestFindInNone(t *testing.T) {
	h := withSome(t, 40)
	always := func(a, b api.Val) bool { return true }
	for _, v := range append(append(plain(), unmay()...), ref(4), ref(5), ref(6)) {
		is(t, "Member", datum.Member(h, v, v, always), no)
		is(t, "Assoc", datum.Assoc(h, v, v, always), no)
	}
	for k, n := range kinds() {
		v := add(t, h, api.Obj{Kind: k, Vals: []api.Val{ref(1), ref(1)}[:n]})
		is(t, "Member", datum.Member(h, ref(1), v, always), no)
		is(t, "Assoc", datum.Assoc(h, number(1), v, always), no)
	}
}

// 15.3: Member and Assoc in chains that go round.
func TestFindRound(t *testing.T) {
	for back := range 3 {
		h := newHeap(t, 20)
		var list []api.Val
		for n := range 3 {
			list = append(list, add(t, h, pair(number(n), number(n+10))))
		}
		v := ring(t, h, list, back)
		for n, x := range list {
			is(t, "Member", datum.Member(h, x, v, equal), tail(t, h, v, n))
			is(t, "Assoc", datum.Assoc(h, number(n), v, equal), x)
		}
		is(t, "Member", datum.Member(h, number(1), v, equal), no)
		is(t, "Assoc", datum.Assoc(h, number(3), v, equal), no)
		is(t, "Assoc", datum.Assoc(h, number(11), v, equal), no)
	}
}

// 15.3: Assoc finds the first item of two; items that are no pairs are passed
// by, whatever they are.
func TestAssoc(t *testing.T) {
	h := withSome(t, 400)
	one := add(t, h, pair(number(1), yes))
	two := add(t, h, pair(number(2), no))
	again := add(t, h, pair(number(1), no))
	of := add(t, h, pair(ref(4), null))
	items := append(plain(), ref(4), ref(5), ref(6))
	for k, n := range kinds() {
		items = append(items, add(t, h, api.Obj{Kind: k, Vals: numbers(1, 1)[:n]}))
	}
	items = append(items, one, two, again, of, number(1), one)
	for _, end := range []api.Val{null, yes, of, one} {
		v := chain(t, h, items, end)
		was := state(h)
		for x, want := range map[api.Val]api.Val{number(1): one, number(2): two, ref(4): of, no: no, yes: no, null: no, ref(5): no, one: no, number(3): no, ref(-1): no} {
			is(t, fmt.Sprintf("Assoc of %v", x), datum.Assoc(h, x, v, equal), want)
		}
		stays(t, "Assoc", h, was)
	}
	v := chain(t, h, []api.Val{one, again, two}, null)
	set(t, h, one, 0, number(5))
	is(t, "the second one", datum.Assoc(h, number(1), v, equal), again)
	h.Drop(again)
	is(t, "a dropped one", datum.Assoc(h, number(1), v, equal), no)
	is(t, "behind a dropped one", datum.Assoc(h, number(2), v, equal), two)
}

// 15.3: by a function that tells more than the same value as the same.
func TestFindByFunction(t *testing.T) {
	h := newHeap(t, 30)
	abc, other := add(t, h, text(api.String, "abc")), add(t, h, text(api.String, "abc"))
	entry := add(t, h, pair(abc, number(1)))
	v := chain(t, h, []api.Val{number(1), abc, entry, yes}, null)
	alike := func(a, b api.Val) bool { return datum.Alike(h, a, b) }
	is(t, "Member by Alike", datum.Member(h, other, v, alike), tail(t, h, v, 1))
	is(t, "Assoc by Alike", datum.Assoc(h, other, v, alike), entry)
	is(t, "Member by the same value", datum.Member(h, other, v, equal), no)
	is(t, "Assoc by the same value", datum.Assoc(h, other, v, equal), no)
	always := func(a, b api.Val) bool { return true }
	is(t, "Member by always", datum.Member(h, other, v, always), v)
	is(t, "Assoc by always", datum.Assoc(h, other, v, always), entry)
	never := func(a, b api.Val) bool { return false }
	is(t, "Member by never", datum.Member(h, number(1), v, never), no)
	is(t, "Assoc by never", datum.Assoc(h, abc, v, never), no)
}

// 15.3: a function that calls the memory, and this layer, itself.
func TestFindThatAsksMemory(t *testing.T) {
	h := newHeap(t, 30)
	entry := add(t, h, pair(number(2), number(3)))
	v := ring(t, h, []api.Val{number(1), entry, number(2)}, 0)
	asking := func(a, b api.Val) bool {
		if n := h.Live(); n != 4 {
			t.Errorf("Live: %d", n)
		}
		list, _, _ := datum.Chain(h, v)
		inner := datum.Member(h, number(2), v, equal)
		return len(list) == 3 && inner == tail(t, h, v, 2) && a == b
	}
	was := state(h)
	is(t, "Member", datum.Member(h, number(2), v, asking), tail(t, h, v, 2))
	is(t, "Member", datum.Member(h, number(4), v, asking), no)
	is(t, "Assoc", datum.Assoc(h, number(2), v, asking), entry)
	is(t, "Assoc", datum.Assoc(h, number(3), v, asking), no)
	stays(t, "asking", h, was)
}

// 15.3, P1: a function that is nil finds none.
func TestFindByNil(t *testing.T) {
	h := newHeap(t, 30)
	entry := add(t, h, pair(number(2), number(3)))
	for _, v := range []api.Val{null, yes, ref(29), chain(t, h, []api.Val{entry, number(2)}, null), ring(t, h, []api.Val{entry, number(2)}, 1)} {
		is(t, "Member", datum.Member(h, number(2), v, nil), no)
		is(t, "Assoc", datum.Assoc(h, number(2), v, nil), no)
		is(t, "Member, without a memory", datum.Member(nil, number(2), v, nil), no)
		is(t, "Assoc, without a memory", datum.Assoc(nil, number(2), v, nil), no)
	}
}
