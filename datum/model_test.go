package datum_test

import (
	"fmt"
	"maps"
	"math/rand"
	"slices"
	"testing"

	"hibernacle/api"
	"hibernacle/datum"
	"hibernacle/heap"
)

// world is a memory, and what is in it told plainly, by places.
type world struct {
	t    *testing.T
	h    *heap.Heap
	from *rand.Rand
	at   map[int]api.Obj
}

// some is a world with objects of any kinds, mostly pairs, that refer to any
// others.
func some(t *testing.T, from *rand.Rand, count int) *world {
	t.Helper()
	return someIn(t, from, count, count+10)
}

// someIn is a world with some objects, and room for as many as a limit.
func someIn(t *testing.T, from *rand.Rand, count, limit int) *world {
	t.Helper()
	w := &world{t, newHeap(t, limit), from, map[int]api.Obj{}}
	for range count {
		w.add()
	}
	for range from.Intn(2*count + 1) {
		w.link()
	}
	for range from.Intn(3) {
		v := ref(from.Intn(count))
		w.h.Drop(v)
		delete(w.at, v.N)
	}
	return w
}

// add has one object more, with values of few numbers, so that many are alike.
func (w *world) add() {
	w.t.Helper()
	list := []api.ObjKind{api.Pair, api.Pair, api.Pair, api.Pair, api.Vector, api.String, api.Bytes, api.Box, api.Values}
	o := api.Obj{Kind: list[w.from.Intn(len(list))]}
	switch o.Kind {
	case api.String, api.Bytes:
		o.Bytes = []byte("ab")[:w.from.Intn(3)]
	case api.Pair:
		o.Vals = []api.Val{w.value(), w.value()}
	case api.Vector, api.Values:
		o.Vals = []api.Val{w.value(), w.value(), w.value()}[:w.from.Intn(4)]
	default:
		o.Vals = []api.Val{w.value()}
	}
	w.at[add(w.t, w.h, o).N] = o
}

// link has an object have another value.
func (w *world) link() {
	w.t.Helper()
	there := w.places()
	place := there[w.from.Intn(len(there))]
	if vals := w.at[place].Vals; len(vals) > 0 {
		i, x := w.from.Intn(len(vals)), w.value()
		set(w.t, w.h, ref(place), i, x)
		vals[i] = x
	}
}

// value is a Ref to an object, or another value.
func (w *world) value() api.Val {
	there := w.places()
	if len(there) > 0 && w.from.Intn(3) > 0 {
		return ref(there[w.from.Intn(len(there))])
	}
	return []api.Val{null, null, number(1), number(1), yes}[w.from.Intn(5)]
}

func (w *world) places() []int { return slices.Sorted(maps.Keys(w.at)) }

// some values to ask for: all objects, and others.
func (w *world) vals() []api.Val {
	list := []api.Val{null, number(1), yes, no, ref(-1), ref(w.h.Limit())}
	for place := range w.h.Limit() {
		list = append(list, ref(place))
	}
	return list
}

// pair is the two values of the pair that a value refers to.
func (w *world) pair(v api.Val) ([]api.Val, bool) {
	o, there := w.at[v.N]
	return o.Vals, v.K == api.Ref && there && o.Kind == api.Pair
}

// pairs are those of a chain, and its end, if it has one.
func (w *world) pairs(v api.Val) (pairs []api.Val, end api.Val, ends bool) {
	for {
		vals, is := w.pair(v)
		if !is {
			return pairs, v, true
		}
		if slices.Contains(pairs, v) {
			return pairs, null, false
		}
		pairs, v = append(pairs, v), vals[1]
	}
}

// unlike tells of all objects which two aren't alike: told so till nothing more
// follows.
func (w *world) unlike() map[[2]int]bool {
	unlike := map[[2]int]bool{}
	for more := true; more; {
		more = false
		for a := range w.at {
			for b := range w.at {
				if key := [2]int{a, b}; a != b && !unlike[key] && w.differ(w.at[a], w.at[b], unlike) {
					unlike[key], more = true, true
				}
			}
		}
	}
	return unlike
}

// differ tells whether two objects aren't alike, by what is known so far.
func (w *world) differ(a, b api.Obj, unlike map[[2]int]bool) bool {
	if a.Kind != b.Kind || a.Kind == api.Box || a.Kind == api.Values || string(a.Bytes) != string(b.Bytes) || len(a.Vals) != len(b.Vals) {
		return true
	}
	for i, x := range a.Vals {
		if y := b.Vals[i]; !w.like(x, y, unlike) {
			return true
		}
	}
	return false
}

// like tells whether two values are alike.
func (w *world) like(x, y api.Val, unlike map[[2]int]bool) bool {
	_, one := w.at[x.N]
	_, two := w.at[y.N]
	return x == y || x.K == api.Ref && y.K == api.Ref && one && two && !unlike[[2]int{x.N, y.N}]
}

// ask holds all that is told of each value against the model.
func (w *world) ask(what string) {
	w.t.Helper()
	was := state(w.h)
	unlike := w.unlike()
	vals := w.vals()
	for _, v := range vals {
		what := fmt.Sprintf("%s: %v", what, v)
		w.askChain(what, v)
		for _, x := range vals {
			w.askFind(what, x, v)
			if got := datum.Alike(w.h, v, x); got != w.like(v, x, unlike) {
				w.t.Fatalf("%s: Alike to %v: %v: %s", what, x, got, was)
			}
		}
	}
	stays(w.t, what, w.h, was)
}

// askChain asks for a value's pair, and its chain.
func (w *world) askChain(what string, v api.Val) {
	w.t.Helper()
	a, b, pair := datum.Pair(w.h, v)
	vals, is := w.pair(v)
	if pair != is || is && (a != vals[0] || b != vals[1]) {
		w.t.Fatalf("%s: Pair: %v, %v, %v", what, a, b, pair)
	}
	pairs, end, ends := w.pairs(v)
	want := w.firsts(pairs)
	items(w.t, what, w.h, v, pairs, want)
	got, last, do := datum.Chain(w.h, v)
	same(w.t, what+": Chain", got, want)
	if last != end || do != ends {
		w.t.Fatalf("%s: Chain: %v, %v", what, last, do)
	}
	list, is := datum.List(w.h, v)
	if is != (ends && end.K == api.Nil) {
		w.t.Fatalf("%s: List: %v", what, is)
	}
	if is {
		same(w.t, what+": List", list, want)
	}
}

// firsts are pairs' first values.
func (w *world) firsts(pairs []api.Val) []api.Val {
	var list []api.Val
	for _, p := range pairs {
		list = append(list, w.at[p.N].Vals[0])
	}
	return list
}

// askFind asks for a value in a chain.
func (w *world) askFind(what string, x, v api.Val) {
	w.t.Helper()
	pairs, _, _ := w.pairs(v)
	member, assoc := no, no
	for _, p := range slices.Backward(pairs) {
		item := w.at[p.N].Vals[0]
		if item == x {
			member = p
		}
		if vals, is := w.pair(item); is && vals[0] == x {
			assoc = item
		}
	}
	is(w.t, fmt.Sprintf("%s: Member(%v)", what, x), datum.Member(w.h, x, v, equal), member)
	is(w.t, fmt.Sprintf("%s: Assoc(%v)", what, x), datum.Assoc(w.h, x, v, equal), assoc)
}

// 15.1 to 15.3: what is told of any memory, held against a plain model.
func TestModelTold(t *testing.T) {
	for seed := range 150 {
		from := rand.New(rand.NewSource(int64(seed)))
		w := some(t, from, 1+from.Intn(18))
		w.ask(fmt.Sprintf("seed %d", seed))
	}
}

// may tells whether a value may be in memory.
func (w *world) may(v api.Val) bool {
	_, there := w.at[v.N]
	return v.K == api.Ref && there || 0 <= v.K && v.K < api.Ref
}

// any is a value, that now and then may not be.
func (w *world) any() api.Val {
	if w.from.Intn(12) == 0 {
		return []api.Val{ref(-1), ref(w.h.Limit()), ref(w.from.Intn(w.h.Limit())), {K: api.Kinds}, {K: -1}}[w.from.Intn(5)]
	}
	return w.value()
}

// builds does a call that builds a chain, and holds it against the model: want
// are the items, if there is anything to be made of them at all.
func (w *world) builds(what string, want []api.Val, end api.Val, fine bool, call func() (api.Val, api.Errno)) {
	w.t.Helper()
	was := state(w.h)
	v, e := call()
	for _, x := range append(slices.Clone(want), end) {
		fine = fine && w.may(x)
	}
	switch {
	case !fine:
		refused(w.t, what, api.ErrArg)(v, e)
	case len(want) > w.h.Limit()-len(w.at):
		refused(w.t, what, api.ErrFull)(v, e)
	default:
		w.built(what, made(w.t, what)(v, e), want, end)
		return
	}
	stays(w.t, what, w.h, was)
}

// built takes the new pairs of a chain over into the model, where no object was
// at their places, and asks that all others are as they were.
func (w *world) built(what string, v api.Val, items []api.Val, end api.Val) {
	w.t.Helper()
	for i, x := range items {
		o, e := w.h.Obj(v)
		if _, was := w.at[v.N]; was || e != api.OK || o.Kind != api.Pair || o.Vals[0] != x {
			w.t.Fatalf("%s: the %d. pair: %v: %v, %d", what, i, v, o, e)
		}
		w.at[v.N] = o
		v = o.Vals[1]
	}
	is(w.t, what+": the end", v, end)
	if w.h.Live() != len(w.at) {
		w.t.Fatalf("%s: Live: %d, not %d", what, w.h.Live(), len(w.at))
	}
	for place, o := range w.at {
		got, e := w.h.Obj(ref(place))
		if e != api.OK || got.Kind != o.Kind || !slices.Equal(got.Vals, o.Vals) || !slices.Equal(got.Bytes, o.Bytes) {
			w.t.Fatalf("%s: at %d: %v, %d, not %v", what, place, got, e, o)
		}
	}
}

// step does one call, or drops an object.
func (w *world) step(what string) {
	w.t.Helper()
	var l []api.Val
	for range w.from.Intn(4) {
		l = append(l, w.any())
	}
	a, b := w.any(), w.any()
	pairs, end, ends := w.pairs(a)
	list := ends && end.K == api.Nil
	switch w.from.Intn(6) {
	case 0:
		w.builds(what+": Cons", []api.Val{a}, b, true, func() (api.Val, api.Errno) { return datum.Cons(w.h, a, b) })
	case 1:
		w.builds(what+": Build", l, b, true, func() (api.Val, api.Errno) { return datum.Build(w.h, l, b) })
	case 2:
		w.builds(what+": Append", w.firsts(pairs), b, list, func() (api.Val, api.Errno) { return datum.Append(w.h, a, b) })
	case 3:
		turned := w.firsts(pairs)
		slices.Reverse(turned)
		w.builds(what+": Reverse", turned, null, list, func() (api.Val, api.Errno) { return datum.Reverse(w.h, a) })
	case 4:
		if len(w.at) > 0 {
			w.link()
		}
	case 5:
		if there := w.places(); len(there) > 8 {
			place := there[w.from.Intn(len(there))]
			w.h.Drop(ref(place))
			delete(w.at, place)
		}
	}
}

// 15.1 to 15.4: any steps, held against a plain model.
func TestModelSteps(t *testing.T) {
	for seed := range 60 {
		from := rand.New(rand.NewSource(int64(seed)))
		w := some(t, from, 10)
		for i := range 100 {
			what := fmt.Sprintf("seed %d, step %d", seed, i)
			w.step(what)
			if i%25 == 24 {
				w.ask(what)
			}
		}
	}
}

// 15.4: Alike is one order of things: each is alike itself; what is alike
// either way round is; what is alike one thing is alike each other.
func TestAlikeIsOneOrder(t *testing.T) {
	for seed := range 60 {
		from := rand.New(rand.NewSource(int64(seed)))
		w := some(t, from, 1+from.Intn(14))
		vals := w.vals()
		like := map[[2]api.Val]bool{}
		for _, a := range vals {
			for _, b := range vals {
				like[[2]api.Val{a, b}] = datum.Alike(w.h, a, b)
			}
		}
		for _, a := range vals {
			if !like[[2]api.Val{a, a}] {
				t.Fatalf("seed %d: %v isn't alike itself", seed, a)
			}
			for _, b := range vals {
				ab := like[[2]api.Val{a, b}]
				if ab != like[[2]api.Val{b, a}] {
					t.Fatalf("seed %d: %v, %v the other way round", seed, a, b)
				}
				for _, c := range vals {
					if ab && like[[2]api.Val{b, c}] != like[[2]api.Val{a, c}] {
						t.Fatalf("seed %d: %v, %v, %v", seed, a, b, c)
					}
				}
			}
		}
	}
}

// 15.4: what is built is a chain of its items; reversed twice a list is alike
// itself; appended lists are the items of both.
func TestFollows(t *testing.T) {
	for seed := range 100 {
		from := rand.New(rand.NewSource(int64(seed)))
		w := someIn(t, from, 12, 400)
		var l, m []api.Val
		for range from.Intn(20) {
			l, m = append(l, w.value()), append(m, w.value())
		}
		a := made(t, "Build")(datum.Build(w.h, l, null))
		holds(t, "Build", w.h, a, l, null)
		b := made(t, "Build")(datum.Build(w.h, m, null))
		v := made(t, "Append")(datum.Append(w.h, a, b))
		holds(t, "Append", w.h, v, slices.Concat(l, m), null)
		one := made(t, "Reverse")(datum.Reverse(w.h, v))
		two := made(t, "Reverse")(datum.Reverse(w.h, one))
		if !datum.Alike(w.h, two, v) || len(l) > 0 && two == v {
			t.Fatalf("seed %d: reversed twice it isn't alike itself", seed)
		}
		// Reversed by itself, and each reversed, with both changed for each other.
		ra, rb := made(t, "Reverse")(datum.Reverse(w.h, a)), made(t, "Reverse")(datum.Reverse(w.h, b))
		if !datum.Alike(w.h, one, made(t, "Append")(datum.Append(w.h, rb, ra))) {
			t.Fatalf("seed %d: reversed, and appended, it isn't alike", seed)
		}
	}
}
