package heap_test

import (
	"fmt"
	"math/rand"
	"testing"

	"hibernacle/api"
	"hibernacle/heap"
)

// place is one with an object, mostly.
func place(from *rand.Rand, x *plain) int {
	there := x.places()
	if len(there) == 0 || from.Intn(12) == 0 {
		return from.Intn(x.limit+4) - 2
	}
	return there[from.Intn(len(there))]
}

// value is one that may be, mostly, and often a Ref.
func value(from *rand.Rand, x *plain) api.Val {
	switch from.Intn(20) {
	case 0:
		return vals()[from.Intn(len(vals()))]
	case 1, 2, 3, 4, 5, 6, 7, 8:
		return ref(place(from, x))
	}
	return api.Val{K: api.Kind(from.Intn(int(api.Ref))), N: from.Intn(300)}
}

// object is one that may be, mostly.
func object(from *rand.Rand, x *plain) api.Obj {
	o := api.Obj{Kind: api.ObjKind(from.Intn(int(api.ObjKinds)))}
	counts := map[api.ObjKind]int{api.Pair: 2, api.Closure: 2, api.Error: 2, api.Box: 1, api.String: 0, api.Bytes: 0}
	n, fixed := counts[o.Kind]
	if !fixed || from.Intn(15) == 0 {
		n = from.Intn(5)
	}
	for range n {
		o.Vals = append(o.Vals, value(from, x))
	}
	if o.Kind == api.String || o.Kind == api.Bytes || from.Intn(15) == 0 {
		o.Bytes = make([]byte, from.Intn(6))
		from.Read(o.Bytes)
	}
	return o
}

// objectStep is a step with objects, and its name.
func objectStep(from *rand.Rand, x *plain) (string, func(m memory) string) {
	v, i, y := ref(place(from, x)), from.Intn(6)-1, value(from, x)
	o, c := object(from, x), byte(from.Intn(256))
	if from.Intn(15) == 0 {
		v = y
	}
	switch from.Intn(11) {
	case 0, 1, 2:
		return fmt.Sprintf("Add(%v)", o), func(m memory) string { return told(m.Add(o)) }
	case 3:
		return fmt.Sprintf("Drop(%v)", v), func(m memory) string { return told(m.Drop(v)) }
	case 4:
		return fmt.Sprintf("Obj(%v)", v), func(m memory) string { return told(m.Obj(v)) }
	case 5:
		return fmt.Sprintf("Kind(%v)", v), func(m memory) string { return told(m.Kind(v)) }
	case 6:
		return fmt.Sprintf("Size(%v)", v), func(m memory) string { return told(m.Size(v)) }
	case 7:
		return fmt.Sprintf("At(%v, %d)", v, i), func(m memory) string { return told(m.At(v, i)) }
	case 8:
		return fmt.Sprintf("Set(%v, %d, %v)", v, i, y), func(m memory) string { return told(m.Set(v, i, y)) }
	case 9:
		return fmt.Sprintf("Text(%v)", v), func(m memory) string { return told(m.Text(v)) }
	}
	return fmt.Sprintf("SetByte(%v, %d, %d)", v, i, c), func(m memory) string { return told(m.SetByte(v, i, c)) }
}

// numberStep is a step with numbers, and its name.
func numberStep(from *rand.Rand, x *plain) (string, func(m memory) string) {
	v, n := ref(place(from, x)), from.Intn(25)
	if from.Intn(15) == 0 {
		n = edges()[from.Intn(len(edges()))]
	}
	switch from.Intn(10) {
	case 0:
		return fmt.Sprintf("Away(%d)", n), func(m memory) string { return told(m.Away(n)) }
	case 1:
		return fmt.Sprintf("Find(%d)", n), func(m memory) string { return told(m.Find(n)) }
	case 2, 3, 4:
		return fmt.Sprintf("Keep(%v, %d)", v, n), func(m memory) string { return told(m.Keep(v, n)) }
	case 5:
		return fmt.Sprintf("Forget(%v)", v), func(m memory) string { return told(m.Forget(v)) }
	case 6:
		to := []func(int) int{
			func(i int) int { return i + n }, func(i int) int { return (i * 7) % 31 }, func(i int) int { return i - n%3 }, func(i int) int { return 25 - i }, func(i int) int { return i / 2 },
		}[from.Intn(5)]
		return "Turn", func(m memory) string { return told(m.Turn(to)) }
	}
	return fmt.Sprintf("Send(%v)", v), func(m memory) string { return told(m.Send(v)) }
}

// anyFetcher tells an object of its own to each number, the same to the same:
// some that may be, some that may not, and errors.
func anyFetcher(seed int) fetcher {
	return func(n int) (api.Obj, api.Errno) {
		from := rand.New(rand.NewSource(int64(seed*20000 + n)))
		if from.Intn(5) == 0 {
			return pair(1, 2), api.Errno(from.Intn(14))
		}
		return object(from, newPlain(5)), api.OK
	}
}

// 13.1 to 13.5: any steps one behind the other, held against a plain memory,
// with all sorts of functions to fetch by.
func TestAnySteps(t *testing.T) {
	from := rand.New(rand.NewSource(135))
	for seed := range 60 {
		b := newBoth(t, []int{1, 3, 10, 40, 16384}[seed%5])
		for i := range 400 {
			what, step := objectStep(from, b.x)
			if from.Intn(3) == 0 {
				what, step = numberStep(from, b.x)
			}
			if from.Intn(60) == 0 {
				by := []fetcher{nil, anyFetcher(seed + i), fetchNot(api.ErrDown)}[from.Intn(3)]
				b.h.Fetch(by)
				b.x.Fetch(by)
			}
			b.ask(what, step)
			if i%5 == 0 {
				b.check(what)
			}
			if from.Intn(50) == 0 {
				c := b.clone()
				c.ask(what+", of a clone", step)
				b, c = c, b
				c.check(what + ", of what was cloned")
			}
		}
		b.check("any steps")
	}
}

// 13.5: what was added is there as it was set, till it is dropped, whatever
// happens to others.
func TestThereTillDropped(t *testing.T) {
	from := rand.New(rand.NewSource(136))
	for range 20 {
		h := newHeap(t, 200)
		there := map[int]api.Obj{}
		for n := range 600 {
			o := vector(number(n), number(from.Intn(100)))
			if n%2 == 0 {
				o = text(api.Bytes, fmt.Sprint(n))
			}
			v, e := h.Add(o)
			if _, was := there[v.N]; e == api.OK && was {
				t.Fatalf("Add: %v, where there is an object", v)
			}
			if e == api.OK {
				there[v.N] = o
			}
			for range 4 {
				w := ref(from.Intn(200))
				if o := there[w.N]; from.Intn(2) == 0 {
					h.Drop(w)
					delete(there, w.N)
				} else if o.Kind == api.Vector && h.Set(w, 1, v) == api.OK {
					there[w.N] = vector(o.Vals[0], v)
				}
			}
			checkThere(t, h, there)
		}
	}
}

// checkThere asks that a memory has these objects, and no others.
func checkThere(t *testing.T, h *heap.Heap, there map[int]api.Obj) {
	t.Helper()
	if h.Live() != len(there) {
		t.Fatalf("Live: %d, not %d", h.Live(), len(there))
	}
	for place, o := range there {
		if got, e := h.Obj(ref(place)); told(got) != told(o) || e != api.OK {
			t.Fatalf("Obj of the place %d: %v, %d, not %v", place, got, e, o)
		}
	}
}

// sendMost has most objects of a memory go away, all that they were told by
// what fetches.
func sendMost(t *testing.T, from *rand.Rand, m memory, stored map[int]api.Obj) {
	t.Helper()
	for v := range m.All() {
		if from.Intn(3) == 0 || m.Number(v) == 0 || m.Changed(v) || m.IsAway(v) {
			continue
		}
		o, e := m.Obj(v)
		if e != api.OK || !m.Send(v) || !m.IsAway(v) {
			t.Fatalf("Send(%v): false, or Obj: %d", v, e)
		}
		stored[m.Number(v)] = o
	}
}

// 13.5: whether an object went away and was fetched again changes no answer,
// if what is fetched is what it was. The plain memory has none go away.
func TestAwayTellsNothing(t *testing.T) {
	from := rand.New(rand.NewSource(137))
	fetched := 0
	for range 40 {
		b := newBoth(t, 60)
		stored := map[int]api.Obj{}
		b.h.Fetch(func(n int) (api.Obj, api.Errno) {
			fetched++
			return stored[n], api.OK
		})
		for range 300 {
			what, step := objectStep(from, b.x)
			if leavesBare(b.x, step) {
				continue
			}
			b.ask(what, step)
			// What is changed is kept, now and then, by a number of its own.
			if v := ref(place(from, b.x)); b.x.Has(v) && from.Intn(2) == 0 {
				b.ask("Keep", func(m memory) string { return told(m.Keep(v, v.N+1)) })
			}
			sendMost(t, from, b.h, stored)
			b.ask("Live", func(m memory) string { return told(m.Live()) })
		}
		for v := range b.x.All() {
			b.ask("Number, Changed", func(m memory) string { return told(m.Number(v), m.Changed(v)) })
			b.ask("Obj", func(m memory) string { return told(m.Obj(v)) })
		}
		b.check("fetched")
	}
	if fetched < 1000 {
		t.Errorf("%d objects were fetched", fetched)
	}
}

// leavesBare tells whether something would refer to a place without an object
// behind a step: it couldn't be fetched again.
func leavesBare(x *plain, step func(m memory) string) bool {
	y := x.clone()
	step(y)
	for _, o := range y.at {
		for _, v := range o.obj.Vals {
			if v.K == api.Ref && y.at[v.N] == nil {
				return true
			}
		}
	}
	return false
}
