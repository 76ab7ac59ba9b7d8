package datum_test

import (
	"fmt"
	"strings"
	"testing"

	"hibernacle/api"
	"hibernacle/datum"
	"hibernacle/heap"
)

// alike asks whether two values are alike, either way round, each to itself,
// and that it changes nothing.
func alike(t *testing.T, what string, h *heap.Heap, a, b api.Val, want bool) {
	t.Helper()
	was := state(h)
	if one, two := datum.Alike(h, a, b), datum.Alike(h, b, a); one != want || two != want {
		t.Fatalf("%s: Alike(%v, %v): %v, and %v the other way round", what, a, b, one, two)
	}
	if !datum.Alike(h, a, a) || !datum.Alike(h, b, b) {
		t.Fatalf("%s: %v or %v isn't alike itself", what, a, b)
	}
	stays(t, what, h, was)
}

// 15.2: values that are no Ref to an object are alike just if they are the same.
func TestAlikeValues(t *testing.T) {
	h := withSome(t, 20)
	list := append(plain(), unmay()...)
	for _, a := range list {
		for _, b := range list {
			alike(t, "values", h, a, b, a == b)
		}
		for place := range 9 {
			alike(t, "a value and a Ref", h, a, ref(place), a == ref(place))
		}
	}
}

// 15.2: Strings and Bytes are alike by their bytes, each with its own kind.
func TestAlikeTexts(t *testing.T) {
	h := newHeap(t, 200)
	list := []string{"", "a", "b", "ab", "ba", "abc", "\x00", "a\x00", "\xff", strings.Repeat("a", 4096), strings.Repeat("a", 4095) + "b", "b" + strings.Repeat("a", 4095), strings.Repeat("a", 4095)}
	for _, k := range []api.ObjKind{api.String, api.Bytes} {
		for _, s := range list {
			for _, other := range list {
				a, b := add(t, h, text(k, s)), add(t, h, text(k, other))
				alike(t, "texts", h, a, b, s == other)
				c := add(t, h, text(api.String+api.Bytes-k, s))
				alike(t, "a String and Bytes", h, a, c, false)
				for _, v := range []api.Val{a, b, c} {
					h.Drop(v)
				}
			}
		}
	}
}

// 15.2: objects of two kinds aren't alike, nor two of one kind but Strings,
// Bytes, Pairs and Vectors, even if they are the same else.
func TestAlikeKinds(t *testing.T) {
	full := kinds()
	full[api.Pair] = 2
	empty := map[api.ObjKind]int{}
	for _, k := range []api.ObjKind{api.Vector, api.String, api.Bytes, api.Frame, api.Code, api.Values, api.Kont, api.Cont, api.Port, api.Alias} {
		empty[k] = 0
	}
	for _, counts := range []map[api.ObjKind]int{full, empty} {
		h := newHeap(t, 60)
		var list []api.Val
		var of []api.ObjKind
		for k, n := range counts {
			for range 2 {
				list = append(list, add(t, h, api.Obj{Kind: k, Vals: numbers(1, 2)[:n]}))
				of = append(of, k)
			}
		}
		for i, a := range list {
			by := of[i] == api.Pair || of[i] == api.Vector || of[i] == api.String || of[i] == api.Bytes
			for j, b := range list {
				alike(t, fmt.Sprintf("the kinds %d, %d", of[i], of[j]), h, a, b, i == j || by && of[i] == of[j])
			}
		}
	}
}

// 15.2: Pairs and Vectors that differ in one place, in how many values they
// have, or in the order of them.
func TestAlikeValuesOfObjects(t *testing.T) {
	h := newHeap(t, 40)
	abc, other, abd := add(t, h, text(api.String, "abc")), add(t, h, text(api.String, "abc")), add(t, h, text(api.String, "abd"))
	one, two, three := []api.Val{number(1), abc, null, yes}, []api.Val{number(1), other, null, yes}, []api.Val{number(1), abd, null, yes}
	makers := map[string]func(l []api.Val) api.Val{
		"a list":          func(l []api.Val) api.Val { return chain(t, h, l, null) },
		"a chain":         func(l []api.Val) api.Val { return chain(t, h, l, abc) },
		"a vector":        func(l []api.Val) api.Val { return add(t, h, vector(l...)) },
		"lists, in depth": func(l []api.Val) api.Val { return chain(t, h, []api.Val{chain(t, h, l, null)}, number(4)) },
		"a pair":          func(l []api.Val) api.Val { return add(t, h, pair(l[0], l[len(l)-1])) },
	}
	for what, from := range makers {
		a, b := from(one), from(two)
		alike(t, what, h, a, b, true)
		alike(t, what+", less", h, a, from(one[:3]), false)
		alike(t, what+", turned", h, a, from([]api.Val{yes, abc, null, number(1)}), false)
		if what != "a pair" {
			alike(t, what+", with another text", h, a, from(three), false)
			alike(t, what+", none", h, from(one[:1]), from(nil), false)
		}
		for v := range h.All() {
			if v.N > abd.N {
				h.Drop(v)
			}
		}
	}
}

// 15.2: of long Vectors with one value that differs, at each place.
func TestAlikeAtEachPlace(t *testing.T) {
	h := newHeap(t, 10)
	a, b := add(t, h, vector(make([]api.Val, 256)...)), add(t, h, vector(make([]api.Val, 256)...))
	c := add(t, h, vector(make([]api.Val, 255)...))
	alike(t, "long ones", h, a, b, true)
	alike(t, "one value less", h, a, c, false)
	for i := range 256 {
		for _, x := range []api.Val{no, {K: api.Nil, N: 1}, c, a} {
			set(t, h, a, i, x)
			alike(t, "long ones that differ", h, a, b, false)
		}
		set(t, h, a, i, null)
	}
	for i := range 256 {
		// Of what goes round: each refers to itself, or to the other one.
		set(t, h, a, i, b)
		set(t, h, b, i, a)
		alike(t, "long ones that refer to each other", h, a, b, true)
		set(t, h, b, i, b)
		alike(t, "long ones that refer to one", h, a, b, true)
	}
}

// 15.2: rings of different lengths are alike, if the items that are gone round
// by are; a ring and a chain that ends aren't.
func TestAlikeRings(t *testing.T) {
	for p := 1; p < 7; p++ {
		for q := 1; q < 7; q++ {
			h := newHeap(t, 40)
			ones := make([]api.Val, 7)
			for i := range ones {
				ones[i] = number(1)
			}
			a, b := ring(t, h, ones[:p], 0), ring(t, h, ones[:q], q-1)
			alike(t, "rings", h, a, b, true)
			alike(t, "a ring, and what is ahead of one", h, a, chain(t, h, ones[:3], b), true)
			alike(t, "a ring, and another item ahead", h, a, chain(t, h, numbers(2), b), false)
			alike(t, "a ring, and a chain", h, a, chain(t, h, ones[:q], null), false)
			set(t, h, tail(t, h, b, q-1), 0, number(2))
			alike(t, "rings, one with another item", h, a, b, false)
		}
	}
}

// 15.2: rings with items that differ.
func TestAlikeRingsOfTwo(t *testing.T) {
	h := newHeap(t, 60)
	rings := []struct {
		items []api.Val
		back  int
		like  int // rings of one number are alike
	}{
		{numbers(1, 2), 0, 1}, {numbers(1, 2, 1, 2), 0, 1}, {numbers(1, 2, 1), 1, 1}, {numbers(1, 2, 1, 2, 1, 2), 0, 1}, {numbers(1, 2, 1, 2), 2, 1},
		{numbers(2, 1), 0, 2}, {numbers(2, 1, 2), 1, 2},
		{numbers(1, 2, 1), 0, 3}, {numbers(1, 2, 1, 1, 2, 1), 0, 3}, {numbers(1, 2, 1, 1), 1, 3},
		{numbers(1, 2), 1, 4}, {numbers(1, 2, 2), 1, 4},
	}
	var list []api.Val
	for _, x := range rings {
		list = append(list, ring(t, h, x.items, x.back))
	}
	for i, a := range list {
		for j, b := range list {
			alike(t, fmt.Sprintf("the rings %d, %d", i, j), h, a, b, rings[i].like == rings[j].like)
		}
	}
}

// 15.2: two things that refer to each other, or to themselves, by their first
// values.
func TestAlikeRoundByItems(t *testing.T) {
	h := newHeap(t, 20)
	loops := func(k api.ObjKind) api.Val {
		v := add(t, h, api.Obj{Kind: k, Vals: numbers(1, 1)})
		set(t, h, v, 0, v)
		return v
	}
	a, b, c := loops(api.Pair), loops(api.Pair), loops(api.Vector)
	alike(t, "each by itself", h, a, b, true)
	alike(t, "of two kinds", h, a, c, false)
	set(t, h, a, 0, b)
	set(t, h, b, 0, a)
	alike(t, "each other", h, a, b, true)
	set(t, h, b, 0, c)
	alike(t, "another kind behind", h, a, b, false)
	set(t, h, c, 0, a)
	alike(t, "another kind", h, b, c, false)
	set(t, h, c, 0, c)
	set(t, h, b, 0, b)
	set(t, h, b, 1, number(2))
	alike(t, "another end", h, a, b, false)
}

// 15.2: what shares things is alike what doesn't; what is gone over by many
// ways is gone over once.
func TestAlikeShared(t *testing.T) {
	h := newHeap(t, 1000)
	shared, other := add(t, h, pair(number(1), null)), add(t, h, pair(number(1), null))
	a := add(t, h, vector(shared, shared, shared))
	b := add(t, h, vector(shared, other, add(t, h, pair(number(1), null))))
	alike(t, "shared", h, a, b, true)
	alike(t, "one behind", h, a, add(t, h, vector(shared, shared, add(t, h, pair(number(2), null)))), false)
	// Without end, if each way were gone: a hundred pairs of one and the same.
	deep := func(end api.Val) api.Val {
		for range 100 {
			end = add(t, h, pair(end, end))
		}
		return end
	}
	alike(t, "by many ways", h, deep(null), deep(null), true)
	alike(t, "by many ways, with other ends", h, deep(null), deep(yes), false)
	alike(t, "by many ways, one more", h, deep(null), deep(add(t, h, pair(null, null))), false)
}

// 15.2: deep things and wide ones.
func TestAlikeDeepAndWide(t *testing.T) {
	h := newHeap(t, 16384)
	deep := func(at int, end api.Val) api.Val {
		for range 4000 {
			o := pair(null, null)
			o.Vals[at] = end
			end = add(t, h, o)
		}
		return end
	}
	for at := range 2 {
		a, b, c := deep(at, number(1)), deep(at, number(1)), deep(at, number(2))
		alike(t, "deep", h, a, b, true)
		alike(t, "deep, with another end", h, a, c, false)
		alike(t, "deep, with one more", h, a, add(t, h, pair(b, b)), false)
		h.Become(newHeap(t, 16384))
	}
	wide := func(last api.Val) api.Val {
		var rows []api.Val
		for range 15 {
			var row []api.Val
			for n := range 256 {
				row = append(row, add(t, h, pair(number(n), null)))
			}
			rows = append(rows, add(t, h, vector(row...)))
		}
		return add(t, h, vector(append(rows, last)...))
	}
	a, b, c := wide(yes), wide(yes), wide(no)
	alike(t, "wide", h, a, b, true)
	alike(t, "wide, with another end", h, a, c, false)
}

// 15.2, P1: two long rings whose lengths have nothing in common end soon, and
// things of which each refers to many.
func TestAlikeOfMany(t *testing.T) {
	h := newHeap(t, 16384)
	ones := make([]api.Val, 8192)
	a, b := ring(t, h, ones, 0), ring(t, h, ones[:8191], 0)
	if !datum.Alike(h, a, b) || !datum.Alike(h, b, a) {
		t.Fatal("two long rings aren't alike")
	}
	set(t, h, tail(t, h, b, 8190), 0, yes)
	if datum.Alike(h, a, b) || datum.Alike(h, b, a) {
		t.Fatal("two long rings are alike, of which one has another item")
	}
	h = newHeap(t, 2000)
	for range 2000 {
		add(t, h, vector(make([]api.Val, 50)...))
	}
	for place := range 2000 {
		for i := range 50 {
			set(t, h, ref(place), i, ref((place*7+i*i*13+1)%1999))
		}
	}
	if !datum.Alike(h, ref(0), ref(1)) || !datum.Alike(h, ref(1500), ref(3)) {
		t.Fatal("things of one kind only aren't alike")
	}
	set(t, h, ref(1998), 49, ref(1999))
	set(t, h, ref(1999), 0, yes)
	if datum.Alike(h, ref(0), ref(1998)) || datum.Alike(h, ref(1999), ref(3)) {
		t.Fatal("things of two kinds are alike")
	}
}

// 15.2: Refs that refer to nothing are alike just if they are the same, also
// where objects refer to them.
func TestAlikeOfNothing(t *testing.T) {
	h := newHeap(t, 40)
	gone, other := add(t, h, vector()), add(t, h, vector())
	a, b, c := chain(t, h, []api.Val{gone}, null), chain(t, h, []api.Val{gone}, null), chain(t, h, []api.Val{other}, null)
	alike(t, "as long as they are there", h, a, c, true)
	h.Drop(gone)
	h.Drop(other)
	alike(t, "the same", h, a, b, true)
	alike(t, "not the same", h, a, c, false)
	alike(t, "themselves", h, gone, other, false)
	alike(t, "one that was never there", h, ref(39), gone, false)
	there := add(t, h, vector())
	is(t, "the least place", there, gone)
	alike(t, "one of them there again", h, a, c, false)
	alike(t, "the same, there again", h, a, b, true)
	again := add(t, h, vector())
	is(t, "the least place", again, other)
	alike(t, "both there again", h, a, c, true)
}

// 15.2: objects of other kinds that are amid others, too, are alike just if
// they are the same.
func TestAlikeAround(t *testing.T) {
	for k, n := range kinds() {
		h := newHeap(t, 20)
		one := add(t, h, api.Obj{Kind: k, Vals: numbers(1, 1)[:n]})
		two := add(t, h, api.Obj{Kind: k, Vals: numbers(1, 1)[:n]})
		a, b, c := add(t, h, vector(yes, one)), add(t, h, vector(yes, one)), add(t, h, vector(yes, two))
		by := k == api.Vector || k == api.String || k == api.Bytes
		alike(t, "round the same", h, a, b, true)
		alike(t, fmt.Sprintf("round two of the kind %d", k), h, a, c, by)
	}
}
