package heap_test

import (
	"fmt"
	"math"
	"testing"

	"hibernacle/api"
)

// withNumbers has objects that are kept, changed, sent, away from their
// beginning on, and without a number, and places without one.
func withNumbers(t *testing.T) *both {
	t.Helper()
	b := newBoth(t, 50)
	b.add(pair(0, 0))
	b.kept(pair(1, 1), 1)
	v := b.kept(pair(2, 2), 2)
	b.must("Set", func(m memory) bool { return m.Set(v, 0, ref(0)) == api.OK })
	b.sent(3)
	b.ask("Away", func(m memory) string { return told(m.Away(4)) })
	v = b.kept(pair(5, 5), 5)
	b.must("Forget", func(m memory) bool { return m.Forget(v) })
	b.kept(vector(), 16384)
	v = b.kept(vector(), 7)
	b.must("Drop", func(m memory) bool { return m.Drop(v) })
	b.sent(16383)
	b.check("objects with numbers")
	return b
}

// 13.3: Away, Find and Keep at all numbers.
func TestNumbers(t *testing.T) {
	for _, n := range append(edges(), 4, 5, 6, 7, 8) {
		b := withNumbers(t)
		b.ask(fmt.Sprintf("Find(%d)", n), func(m memory) string { return told(m.Find(n)) })
		for range 2 {
			b.ask(fmt.Sprintf("Away(%d)", n), func(m memory) string { return told(m.Away(n)) })
			b.ask(fmt.Sprintf("Find(%d)", n), func(m memory) string { return told(m.Find(n)) })
		}
		b.check(fmt.Sprintf("Away of %d", n))
	}
}

// 13.3: Keep of each object with all numbers.
func TestKeep(t *testing.T) {
	for _, n := range append(edges(), 4, 5, 6, 7, 8) {
		for place := -1; place < 12; place++ {
			b := withNumbers(t)
			for range 2 {
				b.ask(fmt.Sprintf("Keep(%d, %d)", place, n), func(m memory) string { return told(m.Keep(ref(place), n)) })
				b.check(fmt.Sprintf("Keep of %d as %d", place, n))
			}
		}
	}
}

// 13.3: Number, Changed, IsAway, Forget and Send of each object.
func TestForgetAndSend(t *testing.T) {
	for place := -1; place < 12; place++ {
		v := ref(place)
		for _, c := range others() {
			b := withNumbers(t)
			b.ask(c.name, func(m memory) string { return c.ask(m, v) })
			b.check(fmt.Sprintf("%s of %v", c.name, v))
			for _, d := range others() {
				b.ask(c.name+", then "+d.name, func(m memory) string { return d.ask(m, v) })
				b.check(fmt.Sprintf("%s, then %s and those ahead, of %v", c.name, d.name, v))
			}
		}
	}
}

// 13.3: numbers by hand.
func TestNumbersByHand(t *testing.T) {
	h := newHeap(t, 4)
	v, _ := h.Add(pair(1, 2))
	w, _ := h.Add(pair(3, 4))
	if h.Number(v) != 0 || !h.Changed(v) || h.IsAway(v) || h.Send(v) {
		t.Fatalf("an object that was added: the number %d, changed %v", h.Number(v), h.Changed(v))
	}
	for _, n := range []int{math.MinInt, -1, 0, 16385, math.MaxInt} {
		if e := h.Keep(v, n); e != api.ErrRange {
			t.Errorf("Keep as %d: %d", n, e)
		}
		if x, e := h.Away(n); x != (api.Val{}) || e != api.ErrRange {
			t.Errorf("Away(%d): %v, %d", n, x, e)
		}
		if x, there := h.Find(n); x != (api.Val{}) || there {
			t.Errorf("Find(%d): %v", n, x)
		}
	}
	for _, n := range []int{1, 16384} {
		if e := h.Keep(v, n); e != api.OK || h.Number(v) != n || h.Changed(v) {
			t.Errorf("Keep as %d: %d; the number %d", n, e, h.Number(v))
		}
		if x, there := h.Find(n); x != v || !there {
			t.Errorf("Find(%d): %v, %v", n, x, there)
		}
		if e := h.Keep(w, n); e != api.ErrTwice || h.Number(w) != 0 || !h.Changed(w) {
			t.Errorf("Keep of another one as %d: %d", n, e)
		}
		if x, e := h.Away(n); x != v || e != api.OK || h.IsAway(v) {
			t.Errorf("Away(%d): %v, %d", n, x, e)
		}
	}
	// The number that it had is no one's any more.
	if x, there := h.Find(1); x != (api.Val{}) || there {
		t.Errorf("Find(1): %v", x)
	}
	if e := h.Keep(w, 1); e != api.OK || h.Number(w) != 1 {
		t.Errorf("Keep of another one as 1: %d", e)
	}
	if e := h.Keep(ref(9), 0); e != api.ErrNone {
		t.Errorf("Keep of none as 0: %d", e)
	}
}

// 13.3: what is kept isn't changed, till it is set; so it may go away.
func TestChangedByHand(t *testing.T) {
	h := newHeap(t, 4)
	v, _ := h.Add(text(api.String, "ab"))
	h.Keep(v, 5)
	if h.Changed(v) || h.SetByte(v, 0, 'c') != api.OK || !h.Changed(v) || h.Send(v) || h.IsAway(v) {
		t.Errorf("set: changed %v, away %v", h.Changed(v), h.IsAway(v))
	}
	if h.Keep(v, 5) != api.OK || h.Changed(v) || !h.Send(v) || !h.IsAway(v) || !h.Send(v) {
		t.Errorf("kept by the number that it has: changed %v, away %v", h.Changed(v), h.IsAway(v))
	}
	if h.Changed(v) || h.Forget(v) || h.Number(v) != 5 || !h.Has(v) || h.Live() != 1 {
		t.Errorf("away: changed %v, the number %d", h.Changed(v), h.Number(v))
	}
	w, _ := h.Add(vector())
	h.Keep(w, 6)
	if !h.Forget(w) || h.Number(w) != 0 || !h.Changed(w) || h.Send(w) || !h.Forget(w) {
		t.Errorf("forgotten: the number %d, changed %v", h.Number(w), h.Changed(w))
	}
	if x, there := h.Find(6); there {
		t.Errorf("Find(6): %v", x)
	}
}

// 13.3: Away of a number that no object has brings a new one that is away, to
// the least place; the one that is there is told also where there is no room.
func TestAwayByHand(t *testing.T) {
	h := newHeap(t, 3)
	h.Add(vector())
	h.Add(vector())
	h.Drop(ref(0))
	for i, want := range []api.Val{ref(0), ref(2)} {
		v, e := h.Away(10 + i)
		if v != want || e != api.OK || !h.IsAway(v) || !h.Has(v) || h.Number(v) != 10+i || h.Changed(v) {
			t.Fatalf("Away(%d): %v, %d", 10+i, v, e)
		}
	}
	if v, e := h.Away(12); v != (api.Val{}) || e != api.ErrFull || h.Live() != 3 {
		t.Errorf("Away(12) of a full memory: %v, %d", v, e)
	}
	if v, e := h.Away(0); v != (api.Val{}) || e != api.ErrRange {
		t.Errorf("Away(0) of a full memory: %v, %d", v, e)
	}
	if v, there := h.Find(12); there {
		t.Errorf("Find(12): %v", v)
	}
	for i, want := range []api.Val{ref(0), ref(2)} {
		if v, e := h.Away(10 + i); v != want || e != api.OK {
			t.Errorf("Away(%d) of a full memory: %v, %d", 10+i, v, e)
		}
	}
}

// 13.3: an object that is away may be kept by another number: it is fetched by
// that one then.
func TestKeepOfOneThatIsAway(t *testing.T) {
	h := newHeap(t, 3)
	v, _ := h.Away(1)
	h.Fetch(func(n int) (api.Obj, api.Errno) { return pair(n, n), api.OK })
	if e := h.Keep(v, 2); e != api.OK || !h.IsAway(v) || h.Number(v) != 2 || h.Changed(v) {
		t.Errorf("Keep: %d, away %v, the number %d", e, h.IsAway(v), h.Number(v))
	}
	if x, e := h.At(v, 0); x != number(2) || e != api.OK {
		t.Errorf("At: %v, %d", x, e)
	}
}
