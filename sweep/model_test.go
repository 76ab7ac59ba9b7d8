package sweep_test

import (
	"fmt"
	"maps"
	"math/rand"
	"slices"
	"testing"

	"hibernacle/api"
	"hibernacle/heap"
	"hibernacle/sweep"
)

// world is a memory, and what is in it told plainly, by places.
type world struct {
	t  *testing.T
	h  *heap.Heap
	at map[int]*thing
}

type thing struct {
	obj  api.Obj
	away bool
}

// some is a world with objects of any kinds, that refer to any others.
func some(t *testing.T, from *rand.Rand, count int) *world {
	t.Helper()
	w := &world{t, newHeap(t, count+20), map[int]*thing{}}
	for range count {
		w.add(from)
	}
	for range from.Intn(2*count + 1) {
		w.link(from)
	}
	for n := range from.Intn(count + 1) {
		w.spoil(from, n+1)
	}
	return w
}

// add has one object more.
func (w *world) add(from *rand.Rand) {
	w.t.Helper()
	o := api.Obj{Kind: api.ObjKind(from.Intn(int(api.ObjKinds)))}
	count, links := kinds()[o.Kind]
	if !links {
		o.Bytes = []byte("some bytes")[:from.Intn(11)]
	}
	for range count {
		o.Vals = append(o.Vals, w.value(from))
	}
	v := add(w.t, w.h, o)
	w.at[v.N] = &thing{obj: o}
}

// value is a Ref to an object, or another value.
func (w *world) value(from *rand.Rand) api.Val {
	there := w.places()
	if len(there) > 0 && from.Intn(3) > 0 {
		return ref(there[from.Intn(len(there))])
	}
	return api.Val{K: api.Kind(from.Intn(int(api.Ref))), N: from.Intn(20)}
}

// link has an object refer to another one.
func (w *world) link(from *rand.Rand) {
	w.t.Helper()
	there := w.places()
	place := there[from.Intn(len(there))]
	vals := w.at[place].obj.Vals
	if !w.at[place].away && len(vals) > 0 {
		i, x := from.Intn(min(4, len(vals))), w.value(from)
		set(w.t, w.h, ref(place), i, x)
		vals[i] = x
	}
}

// spoil drops an object, has one go away, has one that was never there, or one
// have a number; each of them with the number n.
func (w *world) spoil(from *rand.Rand, n int) {
	w.t.Helper()
	there := w.places()
	if len(there) == 0 {
		return
	}
	v := ref(there[from.Intn(len(there))])
	switch from.Intn(5) {
	case 0:
		w.h.Drop(v)
		delete(w.at, v.N)
	case 1:
		away, e := w.h.Away(n + 1000)
		if e != api.OK {
			return
		}
		w.at[away.N] = &thing{away: true}
	case 2, 3:
		if w.at[v.N].away {
			return
		}
		send(w.t, w.h, v, n)
		w.at[v.N].away = true
	case 4:
		w.h.Keep(v, n)
	}
}

func (w *world) places() []int { return slices.Sorted(maps.Keys(w.at)) }

// next is the places that values refer to, in order.
func (w *world) next(vals []api.Val) []int {
	var places []int
	for _, v := range vals {
		if v.K == api.Ref && w.at[v.N] != nil {
			places = append(places, v.N)
		}
	}
	return places
}

// behind is the places that an object refers to, in order.
func (w *world) behind(place int) []int {
	if w.at[place].away {
		return nil
	}
	return w.next(w.at[place].obj.Vals)
}

// reached is the places of what roots reach, round by round.
func (w *world) reached(roots []api.Val) []int {
	var told []int
	for round := w.next(roots); len(round) > 0; {
		var fresh, more []int
		for _, place := range round {
			if !slices.Contains(told, place) {
				told = append(told, place)
				fresh = append(fresh, place)
			}
		}
		for _, place := range fresh {
			more = append(more, w.behind(place)...)
		}
		round = more
	}
	return told
}

// path is the way to the first object of a kind, looked for from its end on.
func (w *world) path(roots []api.Val, is func(k api.ObjKind) bool) []int {
	told := w.reached(roots)
	first := slices.IndexFunc(told, func(place int) bool { return !w.at[place].away && is(w.at[place].obj.Kind) })
	if first < 0 {
		return nil
	}
	way := []int{told[first]}
	for !slices.Contains(w.next(roots), way[0]) {
		by := slices.IndexFunc(told, func(place int) bool { return slices.Contains(w.behind(place), way[0]) })
		way = append([]int{told[by]}, way...)
	}
	return way
}

// check asks all that there is to be told of what roots reach.
func (w *world) check(what string, roots []api.Val) {
	w.t.Helper()
	told := w.reached(roots)
	reaches(w.t, what, w.h, roots, told...)
	size, count := 0, map[api.ObjKind]int{}
	for _, place := range told {
		if o := w.at[place]; !o.away {
			size += len(o.obj.Vals) + len(o.obj.Bytes)
			count[o.obj.Kind]++
		}
	}
	counts(w.t, what, w.h, roots, size, count)
	for k := range api.ObjKinds {
		for _, is := range []func(k api.ObjKind) bool{of(k), of(k, (k+5)%api.ObjKinds)} {
			path(w.t, fmt.Sprintf("%s: to the kind %d", what, k), w.h, roots, is, w.path(roots, is)...)
		}
	}
	clone := w.h.Clone()
	collects(w.t, what, clone, roots, told...)
}

// roots are some values.
func (w *world) roots(from *rand.Rand) []api.Val {
	var list []api.Val
	for range from.Intn(5) {
		switch from.Intn(6) {
		case 0:
			list = append(list, nothing()[from.Intn(len(nothing()))])
		case 1:
			list = append(list, ref(from.Intn(40)-2))
		default:
			list = append(list, w.value(from))
		}
	}
	return list
}

// 14.1, 14.2, 14.4: any memory, held against a plain model.
func TestModel(t *testing.T) {
	for seed := range 100 {
		from := rand.New(rand.NewSource(int64(seed)))
		w := some(t, from, 1+from.Intn(30))
		for i := range 4 {
			w.check(fmt.Sprintf("seed %d, %d", seed, i), w.roots(from))
		}
	}
}

// 14.1, 14.4: any memory that is collected, and gone on with.
func TestModelGoesOn(t *testing.T) {
	for seed := range 30 {
		from := rand.New(rand.NewSource(int64(seed)))
		w := some(t, from, 20)
		for i := range 10 {
			roots := append(w.roots(from), w.value(from))
			told := w.reached(roots)
			collects(t, fmt.Sprintf("seed %d, %d", seed, i), w.h, roots, slices.Clone(told)...)
			maps.DeleteFunc(w.at, func(place int, _ *thing) bool { return !slices.Contains(told, place) })
			w.check(fmt.Sprintf("seed %d, %d, behind", seed, i), roots)
			for range 20 - len(told) {
				w.add(from)
				w.link(from)
			}
		}
	}
}

// 14.4: what less is reached by is reached by more: by each further value, and
// by the same ones in another order.
func TestMoreReachesMore(t *testing.T) {
	for seed := range 200 {
		from := rand.New(rand.NewSource(int64(seed)))
		w := some(t, from, 1+from.Intn(40))
		var roots, less []api.Val
		for range 6 {
			roots = append(roots, w.value(from))
			more := sweep.List(w.h, roots)
			for _, v := range less {
				if !slices.Contains(more, v) {
					t.Fatalf("seed %d: %v isn't reached by more: %v", seed, v, more)
				}
			}
			turned := slices.Clone(roots)
			slices.Reverse(turned)
			by := sweep.List(w.h, turned)
			if len(by) != len(more) || sweep.Size(w.h, turned) != sweep.Size(w.h, roots) || !maps.Equal(sweep.Count(w.h, turned), sweep.Count(w.h, roots)) {
				t.Fatalf("seed %d: %v by %v, and %v by %v", seed, more, roots, by, turned)
			}
			// What is reached reaches no more than that.
			if again := sweep.List(w.h, by); len(again) != len(by) {
				t.Fatalf("seed %d: %v reaches %v", seed, by, again)
			}
			less = more
		}
	}
}

// 14.4: behind Collect of more, Collect of less drops what it would have
// dropped.
func TestCollectOfLess(t *testing.T) {
	for seed := range 200 {
		from := rand.New(rand.NewSource(int64(seed)))
		w := some(t, from, 1+from.Intn(40))
		less := w.roots(from)
		more := append(w.roots(from), less...)
		once, twice := w.h.Clone(), w.h.Clone()
		gone := sweep.Collect(once, less)
		first := sweep.Collect(twice, more)
		if second := sweep.Collect(twice, less); first+second != gone || state(once) != state(twice) {
			t.Fatalf("seed %d: %d and %d, not %d", seed, first, second, gone)
		}
	}
}
