package heap_test

import (
	"slices"
	"testing"

	"hibernacle/api"
)

// 13.1: All tells Refs to all objects, away or not, by rising places; it may be
// left amid the loop, and ranged over twice.
func TestAll(t *testing.T) {
	b := withSome(t)
	want := []api.Val{ref(0), ref(1), ref(3), ref(5)}
	all := b.h.All()
	for range 2 {
		if got := slices.Collect(all); !slices.Equal(got, want) {
			t.Fatalf("All: %v", got)
		}
		for stop := range want {
			var got []api.Val
			for v := range all {
				got = append(got, v)
				if len(got) > stop {
					break
				}
			}
			if !slices.Equal(got, want[:stop+1]) {
				t.Fatalf("All, left at %d: %v", stop, got)
			}
		}
	}
	if !b.h.IsAway(ref(3)) {
		t.Error("All has fetched an object")
	}
	b.check("a memory that was gone over")
	for v := range newHeap(t, 5).All() {
		t.Fatalf("All of an empty memory: %v", v)
	}
}

// 13.1: two loops over one function, one in the other.
func TestAllTwiceAtOnce(t *testing.T) {
	b := withSome(t)
	all, want := b.h.All(), slices.Collect(b.x.All())
	n := 0
	for range all {
		for v := range all {
			if v != want[n%4] {
				t.Fatalf("the %d. object: %v", n, v)
			}
			n++
		}
	}
	if n != 16 {
		t.Fatalf("%d objects in all", n)
	}
}

// 13.1, and the rule that what is told is new memory: All tells what there was
// when it was asked for, whatever is done later or amid the loop.
func TestAllStays(t *testing.T) {
	b := withSome(t)
	all, want := b.h.All(), slices.Collect(b.x.All())
	b.h.Drop(ref(1))
	b.h.Add(pair(1, 2))
	b.h.Add(pair(3, 4))
	b.h.Drop(ref(5))
	var got []api.Val
	for v := range all {
		got = append(got, v)
		b.h.Drop(v)
		b.h.Drop(ref(3))
		b.h.Away(len(got))
	}
	if !slices.Equal(got, want) {
		t.Fatalf("All: %v, not %v", got, want)
	}
}

// 13.1: all objects may be dropped amid a loop over them.
func TestAllDropped(t *testing.T) {
	h := newHeap(t, 16384)
	for range 16384 {
		h.Add(vector())
	}
	n := 0
	for v := range h.All() {
		if v != ref(n) || !h.Drop(v) || h.Live() != 16383-n {
			t.Fatalf("the %d. object: %v; Live %d", n, v, h.Live())
		}
		n++
	}
	if n != 16384 {
		t.Fatalf("%d objects in all", n)
	}
	if v, e := h.Add(vector()); v != ref(0) || e != api.OK {
		t.Fatalf("Add: %v, %d", v, e)
	}
}
