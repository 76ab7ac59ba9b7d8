package sweep_test

import (
	"fmt"
	"math"
	"slices"
	"testing"

	"hibernacle/api"
	"hibernacle/sweep"
)

// holds asks that rounds hold these things, in this order.
func holds[K comparable](t *testing.T, r *sweep.Rounds[K], want ...K) {
	t.Helper()
	if r.Len() != len(want) {
		t.Fatalf("Len: %d, not %d", r.Len(), len(want))
	}
	for i, k := range want {
		if place, is := r.Place(k); place != i || !is {
			t.Fatalf("Place(%v): %d, %v, not %d", k, place, is, i)
		}
	}
	n := 0
	for place, k := range r.All() {
		if n >= len(want) || place != n || k != want[n] {
			t.Fatalf("All: the %d. is %d, %v, not of %v", n, place, k, want)
		}
		n++
	}
	if n != len(want) {
		t.Fatalf("All: %d things, not %d", n, len(want))
	}
}

// sees has the zero rounds come to things, each twice, and asks what they hold
// behind each; other is one that is never come to.
func sees[K comparable](t *testing.T, other K, things ...K) {
	t.Helper()
	var r sweep.Rounds[K]
	holds(t, &r)
	for i, k := range things {
		if place, is := r.Place(k); place != 0 || is {
			t.Fatalf("Place(%v), ahead of it: %d, %v", k, place, is)
		}
		if !r.See(k) {
			t.Fatalf("See(%v): false", k)
		}
		holds(t, &r, things[:i+1]...)
		for _, again := range things[:i+1] {
			if r.See(again) {
				t.Fatalf("See(%v), once more: true", again)
			}
		}
		holds(t, &r, things[:i+1]...)
		if place, is := r.Place(other); place != 0 || is {
			t.Fatalf("Place(%v): %d, %v", other, place, is)
		}
	}
}

// 14.3: rounds of numbers, texts, values, arrays, bools and pointers.
func TestRounds(t *testing.T) {
	sees(t, 7, 5, 0, -3, 9, math.MaxInt, math.MinInt, 1, 2)
	sees(t, "no", "b", "", "a", "\x00", "ab", "A", "\xff")
	sees(t, number(1), number(0), ref(0), ref(1), api.Val{}, api.Val{K: api.Kinds, N: -1}, ref(-1))
	sees(t, api.Alias, api.Vector, api.Pair, api.ObjKinds)
	sees(t, [2]int{1, 1}, [2]int{2, 1}, [2]int{1, 2}, [2]int{})
	sees(t, 'z', 'c', 'a', 'b')
	var both sweep.Rounds[bool]
	if !both.See(true) || !both.See(false) || both.See(true) || both.See(false) {
		t.Error("See of bools")
	}
	holds(t, &both, true, false)
	one, two := new(int), new(int)
	var r sweep.Rounds[*int]
	if !r.See(two) || !r.See(one) || r.See(two) || !r.See(nil) || r.See(nil) {
		t.Error("See of pointers")
	}
	holds(t, &r, two, one, nil)
	var none sweep.Rounds[struct{}]
	if !none.See(struct{}{}) || none.See(struct{}{}) {
		t.Error("See of the empty struct")
	}
	holds(t, &none, struct{}{})
}

// 14.3: things of any types in an interface; those that can't be held against
// others are refused, as P1 asks that no call panics.
func TestRoundsOfAny(t *testing.T) {
	sees[any](t, int64(1), 1, "1", int8(1), nil, 1.5, [1]int{1}, api.Val{}, api.OK)
	var r sweep.Rounds[any]
	for range 2 {
		for _, k := range []any{[]int{1}, map[int]int{}, func() {}, [1][]int{}, struct{ s []byte }{}} {
			place, is := r.Place(k)
			if r.See(k) || place != 0 || is {
				t.Errorf("%T is come to, at %d, %v", k, place, is)
			}
		}
		r.See("there")
	}
	holds[any](t, &r, "there")
}

// 14.3, P1: things that aren't the same as themselves are never come to yet.
func TestRoundsOfNoNumber(t *testing.T) {
	var r sweep.Rounds[float64]
	for n := range 3 {
		place, is := r.Place(math.NaN())
		if place != 0 || is || !r.See(math.NaN()) || r.Len() != n+1 {
			t.Errorf("Place: %d, %v; Len: %d", place, is, r.Len())
		}
	}
	if !r.See(0) || r.See(math.Copysign(0, -1)) {
		t.Error("See of 0")
	}
	if place, is := r.Place(0); place != 3 || !is {
		t.Errorf("Place: %d, %v", place, is)
	}
}

// 14.3: of the zero rounds nothing is come to yet.
func TestZeroRounds(t *testing.T) {
	var r sweep.Rounds[string]
	all := r.All()
	for range 2 {
		for place, k := range all {
			t.Fatalf("All: %d, %q", place, k)
		}
		if place, is := r.Place(""); place != 0 || is || r.Len() != 0 {
			t.Errorf("Place: %d, %v; Len: %d", place, is, r.Len())
		}
	}
	n := 0
	r.See("")
	for place, k := range all {
		if n++; place != 0 || k != "" {
			t.Errorf("All: %d, %q", place, k)
		}
	}
	if n != 1 {
		t.Errorf("All: %d things", n)
	}
	if r := new(sweep.Rounds[int]); !r.See(0) || r.See(0) || r.Len() != 1 {
		t.Error("new rounds")
	}
}

// 14.3: nil rounds.
func TestNilRounds(t *testing.T) {
	var r *sweep.Rounds[int]
	for range 2 {
		if place, is := r.Place(0); place != 0 || is || r.See(0) || r.See(5) || r.Len() != 0 {
			t.Errorf("Place: %d, %v; Len: %d", place, is, r.Len())
		}
		for place, k := range r.All() {
			t.Errorf("All: %d, %d", place, k)
		}
	}
}

// 14.3: All left amid the loop, ranged over twice, and once within itself.
func TestRoundsLeft(t *testing.T) {
	var r sweep.Rounds[string]
	want := []string{"c", "a", "d", "b"}
	for _, k := range want {
		r.See(k)
	}
	all := r.All()
	for stop := range want {
		var got []string
		for place, k := range all {
			got = append(got, k)
			if place == stop {
				break
			}
		}
		if !slices.Equal(got, want[:stop+1]) {
			t.Errorf("left at %d: %q", stop, got)
		}
		holds(t, &r, want...)
	}
	n := 0
	for range all {
		for place, k := range all {
			if n++; k != want[place] {
				t.Errorf("the %d. is %q", place, k)
			}
		}
	}
	if n != 16 {
		t.Errorf("%d things", n)
	}
}

// 14.3: All tells also those that are come to while they are ranged over, and
// no others.
func TestRoundsGrow(t *testing.T) {
	var r sweep.Rounds[int]
	r.See(1)
	var got []int
	for place, k := range r.All() {
		if place != len(got) {
			t.Fatalf("the place %d behind %v", place, got)
		}
		got = append(got, k)
		for _, next := range []int{2 * k, 1, 2*k + 1} {
			if next < 3000 {
				r.See(next)
			}
		}
	}
	if len(got) != 2999 || r.Len() != 2999 {
		t.Fatalf("%d things; Len: %d", len(got), r.Len())
	}
	for i, k := range got {
		if place, is := r.Place(k); k != i+1 || place != i || !is {
			t.Fatalf("the %d. is %d; Place: %d, %v", i, k, place, is)
		}
	}
	// One that is come to amid the last of them.
	for place := range r.All() {
		if place == 2998 {
			r.See(0)
		}
		if place == 2999 {
			got = nil
		}
	}
	if got != nil {
		t.Error("the last one isn't told")
	}
}

// 14.3: what came to be between is told, too, when All is ranged over again.
func TestRoundsLater(t *testing.T) {
	var r sweep.Rounds[string]
	all := r.All()
	want := []string{}
	for i := range 20 {
		k := fmt.Sprint(i * 7 % 20)
		want = append(want, k)
		r.See(k)
		var got []string
		for _, k := range all {
			got = append(got, k)
		}
		if !slices.Equal(got, want) {
			t.Fatalf("All: %q, not %q", got, want)
		}
	}
}

// 14.3: two rounds have nothing with each other.
func TestRoundsByThemselves(t *testing.T) {
	var a, b sweep.Rounds[int]
	for i := range 10 {
		a.See(i)
		b.See(9 - i)
	}
	if a.See(5) || !a.See(10) {
		t.Error("See")
	}
	holds(t, &a, 0, 1, 2, 3, 4, 5, 6, 7, 8, 9, 10)
	holds(t, &b, 9, 8, 7, 6, 5, 4, 3, 2, 1, 0)
}

// joined is a type that rounds are embedded in.
type joined struct {
	sweep.Rounds[api.Val]
	name string
}

// 14.3: rounds that are embedded.
func TestRoundsEmbedded(t *testing.T) {
	j := joined{name: "j"}
	if !j.See(ref(1)) || j.See(ref(1)) || !j.See(ref(0)) || j.Len() != 2 {
		t.Errorf("%s: Len %d", j.name, j.Len())
	}
	holds(t, &j.Rounds, ref(1), ref(0))
}

// 14.3: any steps, held against a plain list.
func TestRoundsModel(t *testing.T) {
	for seed := range 50 {
		var r sweep.Rounds[int]
		var plain []int
		x := seed*2654435761 + 1
		for range 200 {
			x = (x*1103515245 + 12345) & 0x7fffffff
			k := x >> 8 % 60
			place := slices.Index(plain, k)
			if got, is := r.Place(k); is != (place >= 0) || got != max(place, 0) {
				t.Fatalf("Place(%d): %d, %v, not %d", k, got, is, place)
			}
			if x&1 == 0 {
				if r.See(k) != (place < 0) {
					t.Fatalf("See(%d) of %v", k, plain)
				}
				if place < 0 {
					plain = append(plain, k)
				}
			}
			if r.Len() != len(plain) {
				t.Fatalf("Len: %d, not %d", r.Len(), len(plain))
			}
		}
		holds(t, &r, plain...)
	}
}
