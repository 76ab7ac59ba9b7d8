package heap_test

import (
	"fmt"
	"math"
	"math/rand"
	"slices"
	"testing"

	"hibernacle/api"
)

// turn asks both for Turn.
func (b *both) turn(what string, to func(n int) int) string {
	b.t.Helper()
	was := b.x.clone()
	got := b.ask(what, func(m memory) string { return told(m.Turn(to)) })
	if got != told(api.OK) {
		// The plain one, too, is held against what it was.
		b.x = was
	}
	b.check(what)
	return got
}

// 13.3: functions that keep, change, drop and join numbers, and tell some that
// may not be.
func TestTurn(t *testing.T) {
	list := map[string]func(n int) int{
		"as they are":    func(n int) int { return n },
		"one more":       func(n int) int { return n%16384 + 1 },
		"the other way":  func(n int) int { return 16385 - n },
		"all none":       func(n int) int { return 0 },
		"all one":        func(n int) int { return 5 },
		"all below":      func(n int) int { return -1 },
		"all above":      func(n int) int { return 16385 },
		"far below":      func(n int) int { return math.MinInt },
		"far above":      func(n int) int { return math.MaxInt },
		"each below 0":   func(n int) int { return -n },
		"1 none":         func(n int) int { return n * min(n-1, 1) },
		"2 joins 1":      func(n int) int { return max(n, 2) },
		"3 as 8, 1 as 3": func(n int) int { return map[int]int{1: 3, 2: 2, 3: 8, 4: 4, 16383: 1, 16384: 16383}[n] },
	}
	for what, to := range sorted(list) {
		b := withNumbers(t)
		for range 3 {
			b.turn(what, to)
		}
	}
}

// 13.3: Turn of each number alone to all others.
func TestTurnOfOne(t *testing.T) {
	for _, one := range []int{1, 2, 3, 4, 5, 16383, 16384} {
		for _, other := range append(edges(), 4, 5, 6, 7) {
			b := withNumbers(t)
			b.turn(fmt.Sprintf("%d to %d", one, other), func(n int) int {
				if n == one {
					return other
				}
				return n
			})
		}
	}
}

// 13.3: of several errors that of the object at the least place is told; what
// is refused changes nothing.
func TestTurnRefused(t *testing.T) {
	const low, high, none = -1, 16385, 0
	list := []struct {
		to   []int // what the numbers 1 to 4 of the places 0 to 3 become; of the place 2 it is away
		want api.Errno
	}{
		{[]int{4, 3, 2, 1}, api.OK},
		{[]int{none, none, 9, none}, api.OK},
		{[]int{16384, none, 1, 2}, api.OK},
		{[]int{low, 1, 2, 3}, api.ErrRange},
		{[]int{1, 2, 3, high}, api.ErrRange},
		{[]int{1, 2, none, 3}, api.ErrState},
		{[]int{7, 7, 3, 4}, api.ErrTwice},
		{[]int{1, 7, 3, 7}, api.ErrTwice},
		{[]int{1, 3, 3, 4}, api.ErrTwice},
		{[]int{1, 2, 4, 4}, api.ErrTwice},
		{[]int{low, 2, none, 2}, api.ErrRange},
		{[]int{1, 2, none, high}, api.ErrState},
		{[]int{1, high, none, 1}, api.ErrRange},
		{[]int{7, 7, none, high}, api.ErrTwice},
		{[]int{7, 7, high, none}, api.ErrTwice},
		{[]int{none, low, 3, 3}, api.ErrRange},
		{[]int{none, none, none, none}, api.ErrState},
	}
	for _, x := range list {
		b := newBoth(t, 10)
		b.kept(vector(), 1)
		b.kept(vector(), 2)
		b.sent(3)
		b.kept(vector(), 4)
		b.add(vector())
		to := func(n int) int { return x.to[n-1] }
		if got := b.turn(fmt.Sprint(x.to), to); got != told(x.want) {
			t.Errorf("Turn to %v: %s, not %d", x.to, got, x.want)
		}
	}
}

// 13.3: which objects are changed behind a Turn, by hand.
func TestTurnByHand(t *testing.T) {
	h := newHeap(t, 10)
	var list []api.Val
	for n := 1; n <= 4; n++ {
		v, _ := h.Add(vector())
		h.Keep(v, n)
		list = append(list, v)
	}
	v, _ := h.Add(pair(1, 2))
	h.Set(list[0], 0, v)
	h.Send(list[2])
	h.Fetch(func(n int) (api.Obj, api.Errno) { return pair(n, n), api.OK })
	e := h.Turn(func(n int) int { return map[int]int{1: 2, 2: 1, 3: 40, 4: 0}[n] })
	if e != api.OK {
		t.Fatalf("Turn: %d", e)
	}
	for i, n := range []int{2, 1, 40, 0} {
		if h.Number(list[i]) != n || h.Changed(list[i]) != (n == 0) {
			t.Errorf("the place %d: the number %d, changed %v", i, h.Number(list[i]), h.Changed(list[i]))
		}
	}
	for n, want := range map[int]int{1: 1, 2: 0, 40: 2} {
		if x, there := h.Find(n); x != ref(want) || !there {
			t.Errorf("Find(%d): %v, %v", n, x, there)
		}
	}
	for _, n := range []int{0, 3, 4} {
		if x, there := h.Find(n); there {
			t.Errorf("Find(%d): %v", n, x)
		}
	}
	if x, e := h.At(list[2], 0); x != number(40) || e != api.OK {
		t.Errorf("what is fetched by its new number: %v, %d", x, e)
	}
	if h.Turn(nil) != api.ErrArg || h.Number(list[0]) != 2 {
		t.Error("Turn(nil)")
	}
}

// 13.3: a function that asks memory amid Turn is told what it was.
func TestTurnThatAsks(t *testing.T) {
	b := withNumbers(t)
	b.must("Fetch", func(m memory) bool {
		m.Fetch(func(n int) (api.Obj, api.Errno) {
			v, e := m.Away(n + 100)
			return vector(v), e
		})
		return true
	})
	b.ask("Turn", func(m memory) string {
		var seen []string
		e := m.Turn(func(n int) int {
			v, there := m.Find(n)
			seen = append(seen, told(n, v, there, m.Has(v), m.Number(v), m.Changed(v), m.IsAway(v), m.Live(), slices.Collect(m.All())))
			return 16385 - n
		})
		return told(seen, e)
	})
	b.check("turned by one that asks")
}

// 13.3: a function that has objects fetched amid Turn: those that come by that
// are turned, too.
func TestTurnThatFetches(t *testing.T) {
	h := newHeap(t, 20)
	for n := range 3 {
		h.Add(vector())
		h.Away(5 - n)
	}
	h.Drop(ref(0))
	h.Fetch(func(n int) (api.Obj, api.Errno) {
		v, e := h.Away(min(n+10, 40))
		return vector(v), e
	})
	e := h.Turn(func(n int) int {
		v, _ := h.Find(n)
		h.Kind(v)
		return n + 1
	})
	if e != api.OK {
		t.Fatalf("Turn: %d", e)
	}
	seen := map[int]bool{}
	for v := range h.All() {
		n := h.Number(v)
		if x, there := h.Find(n); n != 0 && (x != v || !there || seen[n]) {
			t.Errorf("%v has the number %d, of which Find tells %v", v, n, x)
		}
		seen[n] = true
	}
	for _, n := range []int{4, 5, 6, 14, 15, 16, 24, 25, 26, 34, 35, 36, 41} {
		if !seen[n] {
			t.Errorf("no object has the number %d", n)
		}
	}
	if len(seen) != 14 {
		t.Errorf("the numbers are %v", seen)
	}
}

// 13.3: any functions, of any objects.
func TestAnyTurns(t *testing.T) {
	from := rand.New(rand.NewSource(133))
	seen := map[string]int{}
	for range 3000 {
		b := newBoth(t, 20)
		for n := range 1 + from.Intn(6) {
			switch from.Intn(4) {
			case 0:
				b.sent(16384 - n)
			case 1:
				b.add(vector())
			default:
				b.kept(vector(), n+1)
			}
		}
		to := map[int]int{}
		for place := range b.x.at {
			n := b.x.at[place].number
			to[n] = []int{n, n, n, n + 1, max(1, n-1), 0, -1, 16385, from.Intn(20), 1 + from.Intn(8)}[from.Intn(10)]
		}
		seen[b.turn(fmt.Sprint(to), func(n int) int { return to[n] })]++
	}
	for _, e := range []api.Errno{api.OK, api.ErrRange, api.ErrState, api.ErrTwice} {
		if seen[told(e)] < 100 {
			t.Errorf("told %v", seen)
		}
	}
}
