package heap_test

import (
	"fmt"
	"math/rand"
	"testing"

	"hibernacle/api"
	"hibernacle/heap"
)

// clone is both's clones.
func (b *both) clone() *both {
	return &both{b.t, b.h.Clone(), b.x.clone()}
}

// 13.4: a clone is as it was cloned, of a memory with objects of all sorts, and
// fetches by the same.
func TestClone(t *testing.T) {
	for _, by := range []fetcher{nil, func(n int) (api.Obj, api.Errno) { return pair(n, n), api.OK }, fetchNot(api.ErrEnd)} {
		b := withNumbers(t)
		b.h.Fetch(by)
		b.x.Fetch(by)
		c := b.clone()
		for _, b := range []*both{b, c} {
			b.check("cloned")
			for _, place := range b.x.places() {
				b.ask("Obj", func(m memory) string { return told(m.Obj(ref(place))) })
			}
			b.ask("Add", func(m memory) string { return told(m.Add(vector())) })
			b.ask("Away", func(m memory) string { return told(m.Away(4)) })
			b.check("cloned, and fetched")
		}
	}
	b := newBoth(t, 3)
	b.clone().check("a clone of an empty memory")
}

// changes are all that can be done to a memory.
func changes() map[string]func(m memory) string {
	return map[string]func(m memory) string{
		"Add":     func(m memory) string { return told(m.Add(pair(8, 8))) },
		"Drop":    func(m memory) string { return told(m.Drop(ref(1)), m.Drop(ref(3))) },
		"Set":     func(m memory) string { return told(m.Set(ref(0), 0, number(9)), m.Set(ref(1), 1, ref(0))) },
		"SetByte": func(m memory) string { return told(m.SetByte(ref(8), 1, 'z')) },
		"Fetch":   func(m memory) string { m.Fetch(fetchThis(vector(number(5)))); return told(m.Obj(ref(3))) },
		"fetched": func(m memory) string { return told(m.Obj(ref(3))) },
		"Away":    func(m memory) string { return told(m.Away(12)) },
		"Keep":    func(m memory) string { return told(m.Keep(ref(0), 12), m.Keep(ref(1), 13)) },
		"Forget":  func(m memory) string { return told(m.Forget(ref(1))) },
		"Turn":    func(m memory) string { return told(m.Turn(func(n int) int { return 16385 - n })) },
		"Send":    func(m memory) string { return told(m.Send(ref(1))) },
	}
}

// withFetcher is withNumbers with a String more, and who fetches.
func withFetcher(t *testing.T) *both {
	t.Helper()
	b := withNumbers(t)
	by := func(n int) (api.Obj, api.Errno) { return pair(n, n+1), api.OK }
	b.h.Fetch(by)
	b.x.Fetch(by)
	b.add(text(api.Bytes, "abc"))
	b.add(text(api.Bytes, "abc"))
	return b
}

// 13.4: what is done to a memory leaves its clone, and the one that became as
// it, as they were; and the other way round.
func TestApart(t *testing.T) {
	for what, change := range sorted(changes()) {
		for _, becomes := range []bool{false, true} {
			b := withFetcher(t)
			c := b.clone()
			if becomes {
				c = newBoth(t, 7)
				c.add(vector())
				if !c.h.Become(b.h) {
					t.Fatal("Become: false")
				}
				c.x = b.x.clone()
			}
			d := c.clone()
			b.ask(what, change)
			for _, x := range []*both{b, c, d} {
				x.check(what + " of the first one")
			}
			d.ask(what, change)
			for _, x := range []*both{b, c, d} {
				x.check(what + " of the clone's clone")
			}
			for other, change := range sorted(changes()) {
				c.ask(what+", "+other, change)
			}
			for _, x := range []*both{b, c, d} {
				x.check(what + ", and all of another one")
				x.ask("Obj", func(m memory) string { return told(m.Obj(ref(3))) })
			}
		}
	}
}

// 13.4: Become has a memory be as another one in all, whatever it was.
func TestBecome(t *testing.T) {
	for _, limits := range [][2]int{{1, 50}, {50, 50}, {16384, 50}} {
		b := withFetcher(t)
		c := newBoth(t, limits[0])
		c.h.Fetch(fetchNot(api.ErrDown))
		for n := range min(limits[0], 20) {
			c.kept(vector(number(n)), 100+n)
		}
		if !c.h.Become(b.h) || c.h.Limit() != limits[1] {
			t.Fatalf("Become: the limit %d", c.h.Limit())
		}
		c.x = b.x.clone()
		c.check("what it became")
		for n := range 20 {
			c.ask("Find", func(m memory) string { return told(m.Find(100 + n)) })
		}
		for _, place := range c.x.places() {
			c.ask("Obj", func(m memory) string { return told(m.Obj(ref(place))) })
		}
		for range 50 {
			c.ask("Add", func(m memory) string { return told(m.Add(vector())) })
		}
		c.check("what it became, full")
		b.check("what was become as")
	}
}

// 13.4: a memory becomes as itself, and as what it was ahead.
func TestBecomeItself(t *testing.T) {
	b := withFetcher(t)
	was := b.clone()
	if !b.h.Become(b.h) {
		t.Fatal("Become of itself: false")
	}
	b.check("as itself")
	for what, change := range sorted(changes()) {
		b.ask(what, change)
	}
	b.check("changed")
	for range 2 {
		if !b.h.Become(was.h) {
			t.Fatal("Become: false")
		}
		b.x = was.x.clone()
		b.check("as it was")
		b.ask("Drop", func(m memory) string { return told(m.Drop(ref(0))) })
		was.check("what it was")
	}
}

// 13.4: a nil memory, and Become with nil.
func TestNil(t *testing.T) {
	var h *heap.Heap
	live := withSome(t)
	if h.Become(h) || h.Become(live.h) || live.h.Become(h) || h.Clone() != nil {
		t.Error("Become, Clone of nil")
	}
	live.check("Become of nil, refused")
	h.Fetch(nil)
	h.Fetch(fetchThis(vector()))
	if h.Live() != 0 || h.Limit() != 0 {
		t.Errorf("Live %d, Limit %d", h.Live(), h.Limit())
	}
	for v := range h.All() {
		t.Errorf("All: %v", v)
	}
	for _, n := range edges() {
		if v, e := h.Away(n); v != (api.Val{}) || e != api.ErrArg {
			t.Errorf("Away(%d): %v, %d", n, v, e)
		}
		if v, there := h.Find(n); v != (api.Val{}) || there {
			t.Errorf("Find(%d): %v, %v", n, v, there)
		}
		if e := h.Turn(func(int) int { return n }); e != api.ErrArg {
			t.Errorf("Turn: %d", e)
		}
	}
	for _, o := range []api.Obj{{}, vector(), pair(1, 2), {Kind: -1}} {
		if v, e := h.Add(o); v != (api.Val{}) || e != api.ErrArg {
			t.Errorf("Add: %v, %d", v, e)
		}
	}
	if e := h.Turn(nil); e != api.ErrArg {
		t.Errorf("Turn(nil): %d", e)
	}
	for _, v := range append(vals(), ref(0)) {
		checkNil(t, h, v)
	}
}

// checkNil asks a nil memory for all that takes a value.
func checkNil(t *testing.T, h *heap.Heap, v api.Val) {
	t.Helper()
	want := map[string]string{
		"Obj": told(api.Obj{}, api.ErrArg), "Kind": told(0, api.ErrArg), "Size": told(0, api.ErrArg), "Text": told("", api.ErrArg),
		"Has": told(false), "IsAway": told(false), "Changed": told(false), "Send": told(false), "Forget": told(false), "Drop": told(false), "Number": told(0),
		"At(-1)": told(api.Val{}, api.ErrArg), "At(0)": told(api.Val{}, api.ErrArg), "At(1)": told(api.Val{}, api.ErrArg), "At(256)": told(api.Val{}, api.ErrArg),
	}
	for _, c := range append(asking(), others()...) {
		answer, is := want[c.name]
		if !is {
			answer = told(api.ErrArg)
		}
		if got := c.ask(h, v); got != answer {
			t.Errorf("%s of %v: %s, not %s", c.name, v, got, answer)
		}
	}
}

// 13.4: any steps of a memory and its clones, each by itself.
func TestAnyClones(t *testing.T) {
	from := rand.New(rand.NewSource(134))
	for range 30 {
		list := []*both{withFetcher(t)}
		for range 60 {
			b := list[from.Intn(len(list))]
			switch from.Intn(8) {
			case 0:
				list = append(list, b.clone())
			case 1:
				c := list[from.Intn(len(list))]
				if !c.h.Become(b.h) {
					t.Fatal("Become: false")
				}
				c.x = b.x.clone()
			default:
				for what, change := range sorted(changes()) {
					if from.Intn(4) == 0 {
						b.ask(what, change)
					}
				}
			}
		}
		for i, b := range list {
			b.check(fmt.Sprintf("the %d. of %d", i+1, len(list)))
		}
	}
}
