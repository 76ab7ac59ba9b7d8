package heap_test

import (
	"fmt"
	"iter"
	"maps"
	"math"
	"slices"
	"strings"
	"testing"

	"hibernacle/api"
	"hibernacle/heap"
)

// both are a memory and a plain one, of which the same is asked.
type both struct {
	t *testing.T
	h *heap.Heap
	x *plain
}

func newHeap(t *testing.T, limit int) *heap.Heap {
	t.Helper()
	h, e := heap.New(limit)
	if h == nil || e != api.OK {
		t.Fatalf("New(%d): %v, %d", limit, h, e)
	}
	return h
}

func newBoth(t *testing.T, limit int) *both {
	t.Helper()
	return &both{t, newHeap(t, limit), newPlain(limit)}
}

// told is a call's answer as a text; of lists nil and empty are one.
func told(answer ...any) string {
	return strings.TrimSuffix(fmt.Sprintln(answer...), "\n")
}

func short(s string) string {
	if len(s) > 300 {
		return s[:300] + " .."
	}
	return s
}

// ask asks both for something, and that both answer the same.
func (b *both) ask(what string, call func(m memory) string) string {
	b.t.Helper()
	got, want := call(b.h), call(b.x)
	if got != want {
		b.t.Fatalf("%s: %s, not %s", what, short(got), short(want))
	}
	return got
}

// check asks that a memory tells what a plain one has; nothing is fetched by
// that.
func (b *both) check(what string) {
	b.t.Helper()
	b.ask(what+": Live, Limit", func(m memory) string { return told(m.Live(), m.Limit()) })
	b.ask(what+": All", func(m memory) string { return told(slices.Collect(m.All())) })
	for _, place := range append(b.x.places(), -1, len(b.x.at), len(b.x.at)+1) {
		b.checkAt(what, ref(place))
	}
	for n := -1; n < 20; n++ {
		b.ask(fmt.Sprintf("%s: Find(%d)", what, n), func(m memory) string { return told(m.Find(n)) })
	}
}

func (b *both) checkAt(what string, v api.Val) {
	b.t.Helper()
	got := told(b.h.Has(v), b.h.IsAway(v), b.h.Number(v), b.h.Changed(v))
	if want := told(b.x.Has(v), b.x.IsAway(v), b.x.Number(v), b.x.Changed(v)); got != want {
		b.t.Fatalf("%s: Has, IsAway, Number, Changed of %v: %s, not %s", what, v, got, want)
	}
	if n := b.x.Number(v); n != 0 && told(b.h.Find(n)) != told(b.x.Find(n)) {
		b.t.Fatalf("%s: Find(%d): %s, not %v", what, n, told(b.h.Find(n)), v)
	}
	if b.x.IsAway(v) {
		return
	}
	if got, want := told(b.h.Obj(v)), told(b.x.Obj(v)); got != want {
		b.t.Fatalf("%s: Obj(%v): %s, not %s", what, v, short(got), short(want))
	}
}

// add has both have one object more, that may be.
func (b *both) add(o api.Obj) api.Val {
	b.t.Helper()
	got, e := b.h.Add(o)
	want, f := b.x.Add(o)
	if got != want || e != f || e != api.OK {
		b.t.Fatalf("Add: %v, %d, not %v, %d", got, e, want, f)
	}
	return got
}

// kept has both have one object more, with a number.
func (b *both) kept(o api.Obj, n int) api.Val {
	b.t.Helper()
	v := b.add(o)
	b.must("Keep", func(m memory) bool { return m.Keep(v, n) == api.OK })
	return v
}

// sent has both have one object more that is away.
func (b *both) sent(n int) api.Val {
	b.t.Helper()
	v := b.kept(pair(n, n), n)
	b.must("Send", func(m memory) bool { return m.Send(v) && m.IsAway(v) })
	return v
}

// must asks both for what is to be so.
func (b *both) must(what string, call func(m memory) bool) {
	b.t.Helper()
	if !call(b.h) || !call(b.x) {
		b.t.Fatalf("%s: refused", what)
	}
}

// call is one thing that can be asked of a value.
type call struct {
	name string
	ask  func(m memory, v api.Val) string
}

// asking are the calls that ask for an object itself, and have it fetched.
func asking() []call {
	return []call{
		{"Obj", func(m memory, v api.Val) string { return told(m.Obj(v)) }},
		{"Kind", func(m memory, v api.Val) string { return told(m.Kind(v)) }},
		{"Size", func(m memory, v api.Val) string { return told(m.Size(v)) }},
		{"At(-1)", func(m memory, v api.Val) string { return told(m.At(v, -1)) }},
		{"At(0)", func(m memory, v api.Val) string { return told(m.At(v, 0)) }},
		{"At(1)", func(m memory, v api.Val) string { return told(m.At(v, 1)) }},
		{"At(256)", func(m memory, v api.Val) string { return told(m.At(v, 256)) }},
		{"Set(-1)", func(m memory, v api.Val) string { return told(m.Set(v, -1, number(1))) }},
		{"Set(0)", func(m memory, v api.Val) string { return told(m.Set(v, 0, number(7))) }},
		{"Set(1)", func(m memory, v api.Val) string { return told(m.Set(v, 1, v)) }},
		{"Set(256)", func(m memory, v api.Val) string { return told(m.Set(v, 256, number(1))) }},
		{"Set(0) to what may not be", func(m memory, v api.Val) string { return told(m.Set(v, 0, api.Val{K: api.Kinds})) }},
		{"Set(300) to what may not be", func(m memory, v api.Val) string { return told(m.Set(v, 300, api.Val{K: -1})) }},
		{"Text", func(m memory, v api.Val) string { return told(m.Text(v)) }},
		{"SetByte(-1)", func(m memory, v api.Val) string { return told(m.SetByte(v, -1, 'x')) }},
		{"SetByte(0)", func(m memory, v api.Val) string { return told(m.SetByte(v, 0, 'x')) }},
		{"SetByte(0) to 200", func(m memory, v api.Val) string { return told(m.SetByte(v, 0, 200)) }},
		{"SetByte(4096)", func(m memory, v api.Val) string { return told(m.SetByte(v, 4096, 'x')) }},
		{"SetByte(4096) to 200", func(m memory, v api.Val) string { return told(m.SetByte(v, 4096, 200)) }},
	}
}

// others are the calls that take a value, and fetch nothing.
func others() []call {
	return []call{
		{"Has", func(m memory, v api.Val) string { return told(m.Has(v)) }},
		{"IsAway", func(m memory, v api.Val) string { return told(m.IsAway(v)) }},
		{"Number", func(m memory, v api.Val) string { return told(m.Number(v)) }},
		{"Changed", func(m memory, v api.Val) string { return told(m.Changed(v)) }},
		{"Send", func(m memory, v api.Val) string { return told(m.Send(v)) }},
		{"Keep(0)", func(m memory, v api.Val) string { return told(m.Keep(v, 0)) }},
		{"Keep(9)", func(m memory, v api.Val) string { return told(m.Keep(v, 9)) }},
		{"Keep(16385)", func(m memory, v api.Val) string { return told(m.Keep(v, 16385)) }},
		{"Forget", func(m memory, v api.Val) string { return told(m.Forget(v)) }},
		{"Drop", func(m memory, v api.Val) string { return told(m.Drop(v)) }},
	}
}

// sorted goes over a map by its names, in order.
func sorted[V any](list map[string]V) iter.Seq2[string, V] {
	return func(yield func(string, V) bool) {
		for _, what := range slices.Sorted(maps.Keys(list)) {
			if !yield(what, list[what]) {
				return
			}
		}
	}
}

func ref(place int) api.Val { return api.Val{K: api.Ref, N: place} }

func number(n int) api.Val { return api.Val{K: api.Int, N: n} }

func pair(a, b int) api.Obj {
	return api.Obj{Kind: api.Pair, Vals: []api.Val{number(a), number(b)}}
}

func vector(vals ...api.Val) api.Obj { return api.Obj{Kind: api.Vector, Vals: vals} }

func text(kind api.ObjKind, s string) api.Obj { return api.Obj{Kind: kind, Bytes: []byte(s)} }

// edges are whole numbers at which something ends, or begins.
func edges() []int {
	return []int{math.MinInt, math.MinInt + 1, -1 << 32, -1 << 31, -16384, -256, -2, -1, 0, 1, 2, 3, 127, 128, 255, 256, 257, 4095, 4096, 4097,
		16383, 16384, 16385, 1 << 16, 1<<31 - 1, 1 << 31, 1 << 32, 1<<32 + 1, math.MaxInt - 1, math.MaxInt}
}

// kinds are those of objects, and some that there aren't.
func kinds() []api.ObjKind {
	list := []api.ObjKind{math.MinInt, -1 << 32, -256, -2, -1, 254, 255, 256, 257, 1 << 32, 1<<32 + 1, math.MaxInt}
	for k := range api.ObjKind(20) {
		list = append(list, k)
	}
	return list
}

// valKinds are those of values, and some that there aren't.
func valKinds() []api.Kind {
	list := []api.Kind{math.MinInt, -1 << 32, -256, -2, -1, 254, 255, 256, 257, 1 << 32, 1<<32 + 8, math.MaxInt}
	for k := range api.Kind(15) {
		list = append(list, k)
	}
	return list
}

// vals are values of all these kinds, with all these numbers.
func vals() []api.Val {
	var list []api.Val
	for _, k := range valKinds() {
		for _, n := range edges() {
			list = append(list, api.Val{K: k, N: n})
		}
	}
	return list
}

// fetchThis fetches one object whatever the number.
func fetchThis(o api.Obj) fetcher {
	return func(int) (api.Obj, api.Errno) { return o, api.OK }
}

// fetchNot fetches nothing, but tells an error.
func fetchNot(e api.Errno) fetcher {
	return func(int) (api.Obj, api.Errno) { return api.Obj{}, e }
}
