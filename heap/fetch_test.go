package heap_test

import (
	"fmt"
	"slices"
	"strings"
	"testing"

	"hibernacle/api"
	"hibernacle/heap"
)

// fetchers are functions that tell all there may be, and may not be.
func fetchers() map[string]fetcher {
	list := map[string]fetcher{
		"nothing":             nil,
		"what it was":         func(n int) (api.Obj, api.Errno) { return pair(n, n), api.OK },
		"another pair":        fetchThis(api.Obj{Kind: api.Pair, Vals: []api.Val{ref(0), ref(2)}}),
		"a vector":            fetchThis(vector(make([]api.Val, 256)...)),
		"a string":            fetchThis(text(api.String, "abc")),
		"a string beyond 127": fetchThis(text(api.String, "\x80")),
		"bytes":               fetchThis(text(api.Bytes, strings.Repeat("\xff", 4096))),
		"an empty alias":      fetchThis(api.Obj{Kind: api.Alias}),
		"a vector too long":   fetchThis(vector(make([]api.Val, 257)...)),
		"bytes too long":      fetchThis(text(api.Bytes, strings.Repeat("a", 4097))),
		"a pair of one":       fetchThis(api.Obj{Kind: api.Pair, Vals: make([]api.Val, 1)}),
		"a pair of three":     fetchThis(api.Obj{Kind: api.Pair, Vals: make([]api.Val, 3)}),
		"a pair with bytes":   fetchThis(api.Obj{Kind: api.Pair, Vals: make([]api.Val, 2), Bytes: []byte("a")}),
		"no kind":             fetchThis(api.Obj{Kind: api.ObjKinds}),
		"a kind below 0":      fetchThis(api.Obj{Kind: -1}),
		"no value":            fetchThis(vector(number(1), api.Val{K: api.Kinds})),
		"a Ref to nothing":    fetchThis(vector(ref(1))),
		"a Ref above all":     fetchThis(vector(ref(50))),
		"itself":              fetchThis(vector(ref(2))),
		"an error beside":     func(int) (api.Obj, api.Errno) { return pair(1, 2), api.ErrDown },
		"an error beside bad": func(int) (api.Obj, api.Errno) { return vector(ref(-1)), api.ErrTwice },
	}
	for e := api.ErrArg; e <= api.ErrHarm+1; e++ {
		list[fmt.Sprintf("the error %d", e)] = fetchNot(e)
	}
	list["the error -1"] = fetchNot(-1)
	return list
}

// withOneAway has an object at 0, none at 1, and one at 2 that is away.
func withOneAway(t *testing.T, by fetcher) *both {
	t.Helper()
	b := newBoth(t, 10)
	b.add(vector())
	v := b.add(vector())
	b.sent(3)
	b.must("Drop", func(m memory) bool { return m.Drop(v) })
	b.h.Fetch(by)
	b.x.Fetch(by)
	return b
}

// 13.2, 13.3: each call that asks anything of an object that is away, with all
// that may be fetched; each once more; and all one behind the other.
func TestFetched(t *testing.T) {
	for what, by := range sorted(fetchers()) {
		v := ref(2)
		for _, c := range asking() {
			b := withOneAway(t, by)
			for range 2 {
				b.ask(what+": "+c.name, func(m memory) string { return c.ask(m, v) })
				b.check(what + ": " + c.name)
			}
		}
		b := withOneAway(t, by)
		for _, c := range asking() {
			b.ask(what+": "+c.name, func(m memory) string { return c.ask(m, v) })
			b.check(what + ": " + c.name)
		}
	}
}

// 13.3: calls that ask nothing of the object itself fetch nothing.
func TestNotFetched(t *testing.T) {
	v := ref(2)
	by := func(n int) (api.Obj, api.Errno) {
		t.Errorf("%d is fetched", n)
		return api.Obj{}, api.ErrDown
	}
	for _, c := range others() {
		b := withOneAway(t, by)
		b.ask(c.name, func(m memory) string { return c.ask(m, v) })
		b.check(c.name)
	}
	b := withOneAway(t, by)
	b.ask("Add", func(m memory) string { return told(m.Add(vector(v, v))) })
	b.ask("Set", func(m memory) string { return told(m.Set(ref(1), 0, v)) })
	b.ask("Away", func(m memory) string { return told(m.Away(3)) })
	b.ask("Find", func(m memory) string { return told(m.Find(3)) })
	b.turn("Turn", func(n int) int { return n + 1 })
	b.must("Become", func(memory) bool { return b.h.Become(b.h.Clone()) })
	b.check("asked for all else")
}

// 13.3: what a fetch tells, by hand, and what is there behind it.
func TestFetchedByHand(t *testing.T) {
	h := newHeap(t, 10)
	v, _ := h.Add(pair(1, 2))
	h.Keep(v, 8)
	h.Send(v)
	for _, x := range []struct {
		by   fetcher
		want api.Errno
	}{{nil, api.ErrState}, {fetchNot(api.ErrDown), api.ErrDown}, {fetchNot(77), 77}, {fetchThis(api.Obj{Kind: api.Box}), api.ErrHarm}, {fetchThis(vector(ref(1))), api.ErrHarm}} {
		h.Fetch(x.by)
		for range 2 {
			if o, e := h.Obj(v); o.Kind != 0 || o.Vals != nil || o.Bytes != nil || e != x.want {
				t.Errorf("Obj: %v, %d, not %d", o, e, x.want)
			}
			if x, e := h.At(v, 0); x != (api.Val{}) || e == api.OK {
				t.Errorf("At: %v, %d", x, e)
			}
			if !h.IsAway(v) || h.Changed(v) || h.Number(v) != 8 || !h.Has(v) {
				t.Error("an object whose fetching failed isn't as it was")
			}
		}
		// The error of fetching is told ahead of others.
		if e, f := h.Set(v, -1, ref(99)), h.SetByte(v, -1, 200); e != x.want || f != x.want {
			t.Errorf("Set, SetByte: %d, %d, not %d", e, f, x.want)
		}
	}
	asked := []int{}
	h.Fetch(func(n int) (api.Obj, api.Errno) {
		asked = append(asked, n)
		return text(api.String, "came"), api.OK
	})
	if s, e := h.Text(v); s != "came" || e != api.OK {
		t.Errorf("Text: %q, %d", s, e)
	}
	if k, e := h.Kind(v); k != api.String || e != api.OK || h.IsAway(v) || h.Changed(v) || h.Number(v) != 8 {
		t.Errorf("fetched: the kind %d, away %v, changed %v, the number %d", k, h.IsAway(v), h.Changed(v), h.Number(v))
	}
	h.Fetch(nil)
	if s, e := h.Text(v); s != "came" || e != api.OK || !slices.Equal(asked, []int{8}) {
		t.Errorf("Text: %q, %d; asked for %v", s, e, asked)
	}
}

// 13.3: what is refused behind a fetch leaves the object there, not changed;
// what sets it leaves it changed.
func TestSetOfOneThatIsAway(t *testing.T) {
	list := []struct {
		set     func(m memory, v api.Val) api.Errno
		want    api.Errno
		changed bool
	}{
		{func(m memory, v api.Val) api.Errno { return m.Set(v, 0, number(7)) }, api.OK, true},
		{func(m memory, v api.Val) api.Errno { return m.Set(v, 1, v) }, api.OK, true},
		{func(m memory, v api.Val) api.Errno { return m.Set(v, 2, number(7)) }, api.ErrRange, false},
		{func(m memory, v api.Val) api.Errno { return m.Set(v, 0, api.Val{K: -1}) }, api.ErrArg, false},
		{func(m memory, v api.Val) api.Errno { return m.SetByte(v, 0, 7) }, api.ErrRange, false},
	}
	for i, x := range list {
		h := newHeap(t, 10)
		v, _ := h.Away(5)
		h.Fetch(fetchThis(pair(1, 2)))
		if e := x.set(h, v); e != x.want || h.IsAway(v) || h.Changed(v) != x.changed || h.Send(v) == x.changed {
			t.Errorf("the %d.: %d, away %v, changed %v", i+1, e, h.IsAway(v), h.Changed(v))
		}
	}
}

// The rule of memory: what is fetched is neither changed nor kept.
func TestFetchedIsCopied(t *testing.T) {
	one := vector(number(1), number(2))
	two := text(api.Bytes, "ab")
	h := newHeap(t, 10)
	h.Fetch(func(n int) (api.Obj, api.Errno) {
		if n == 1 {
			return one, api.OK
		}
		return two, api.OK
	})
	v, _ := h.Away(1)
	w, _ := h.Away(2)
	h.Set(v, 0, number(9))
	h.SetByte(w, 0, 'z')
	if one.Vals[0] != number(1) || string(two.Bytes) != "ab" {
		t.Errorf("what came is %v, %q", one.Vals, two.Bytes)
	}
	one.Vals[1], two.Bytes[1] = ref(77), 'y'
	if x, _ := h.At(v, 1); x != number(2) {
		t.Errorf("At: %v", x)
	}
	if s, _ := h.Text(w); s != "zb" {
		t.Errorf("Text: %q", s)
	}
}

// 13.3: a function that works on memory itself: that has others come, add many
// objects, and drop, keep, send and fetch others.
func TestFetchThatWorks(t *testing.T) {
	works := map[string]func(m memory, n int) (api.Obj, api.Errno){
		"has others come": func(m memory, n int) (api.Obj, api.Errno) {
			a, e := m.Away(n%50 + 1)
			b, f := m.Away(n)
			return vector(a, b), max(e, f)
		},
		"adds many": func(m memory, n int) (api.Obj, api.Errno) {
			var list []api.Val
			for i := range 200 {
				v, _ := m.Add(pair(i, n))
				list = append(list, v)
			}
			return vector(list...), api.OK
		},
		"drops others": func(m memory, n int) (api.Obj, api.Errno) {
			for v := range m.All() {
				if m.Number(v) != n {
					m.Drop(v)
				}
			}
			return pair(n, n), api.OK
		},
		"fetches others": func(m memory, n int) (api.Obj, api.Errno) {
			if n == 20 {
				return vector(), api.ErrEnd
			}
			v, _ := m.Away(n + 1)
			k, e := m.Kind(v)
			return vector(v, number(int(k)), number(int(e))), api.OK
		},
		"keeps and sends others": func(m memory, n int) (api.Obj, api.Errno) {
			v, e := m.Add(vector())
			f := m.Keep(v, n+1)
			return vector(v, number(int(f)), api.Val{N: m.Live()}), max(e, map[bool]api.Errno{false: api.ErrState}[m.Send(v)])
		},
		"asks for all": func(m memory, n int) (api.Obj, api.Errno) {
			v, there := m.Find(n)
			s := told(m.Has(v), m.IsAway(v), m.Changed(v), m.Number(v), m.Live(), m.Limit(), slices.Collect(m.All()), there, m.Send(v), m.Forget(v))
			return text(api.String, s), api.OK
		},
	}
	for what, work := range sorted(works) {
		for _, c := range asking() {
			b := newBoth(t, 300)
			b.add(vector())
			b.sent(10)
			b.sent(11)
			b.add(vector(ref(1)))
			b.h.Fetch(func(n int) (api.Obj, api.Errno) { return work(b.h, n) })
			b.x.Fetch(func(n int) (api.Obj, api.Errno) { return work(b.x, n) })
			b.ask(what+": "+c.name, func(m memory) string { return c.ask(m, ref(1)) })
			b.check(what)
			b.ask(what+": then Obj", func(m memory) string { return told(m.Obj(ref(2))) })
			b.check(what)
		}
	}
}

// 13.3, P1: a function that asks for the object that it is to fetch: the call
// ends.
func TestFetchThatAsksForItself(t *testing.T) {
	h := newHeap(t, 4)
	v, _ := h.Away(1)
	calls := 0
	h.Fetch(func(n int) (api.Obj, api.Errno) {
		calls++
		_, e := h.Kind(v)
		return pair(n, n), e
	})
	if k, e := h.Kind(v); k != 0 || e != api.ErrState || !h.IsAway(v) {
		t.Errorf("Kind: %d, %d, behind %d calls", k, e, calls)
	}
	h.Fetch(func(n int) (api.Obj, api.Errno) {
		if calls++; calls%3 != 0 {
			h.Set(v, 0, number(7))
		}
		return pair(n, n), api.OK
	})
	calls = 0
	if x, e := h.At(v, 1); x != number(1) || e != api.OK || calls != 3 {
		t.Errorf("At: %v, %d, behind %d calls", x, e, calls)
	}
	if x, e := h.At(v, 0); x != number(7) || e != api.OK || !h.Changed(v) {
		t.Errorf("At: %v, %d, changed %v", x, e, h.Changed(v))
	}
}

// 13.4, P1: a function that clones memory amid all this, or has it become
// another one: the call ends, and the clone fetches as if there were none.
func TestFetchThatClones(t *testing.T) {
	h := newHeap(t, 4)
	v, _ := h.Away(1)
	var clone *heap.Heap
	h.Fetch(func(n int) (api.Obj, api.Errno) {
		clone = h.Clone()
		if !h.Become(clone) {
			t.Error("Become: false")
		}
		_, e := h.Kind(v)
		return pair(n, n), e
	})
	if k, e := h.Kind(v); k != 0 || e != api.ErrState || !h.IsAway(v) {
		t.Errorf("Kind: %d, %d", k, e)
	}
	for _, h := range []*heap.Heap{h, clone} {
		h.Fetch(fetchThis(vector(number(5))))
		if x, e := h.At(v, 0); x != number(5) || e != api.OK {
			t.Errorf("At: %v, %d", x, e)
		}
	}
}

// 13.3, P1: a function that has the object be there no more.
func TestFetchThatDrops(t *testing.T) {
	for _, anew := range []bool{false, true} {
		for _, c := range asking() {
			h := newHeap(t, 4)
			v, _ := h.Away(1)
			h.Fetch(func(n int) (api.Obj, api.Errno) {
				h.Drop(v)
				if anew {
					h.Add(text(api.String, "new"))
				}
				return pair(n, n), api.OK
			})
			got := c.ask(h, v)
			if !strings.HasSuffix(got, told(api.ErrNone)) {
				t.Errorf("%s: %s", c.name, got)
			}
			if s, _ := h.Text(v); h.Has(v) != anew || anew && s != "new" || h.Number(v) != 0 {
				t.Errorf("%s: there is %q", c.name, s)
			}
		}
	}
}
