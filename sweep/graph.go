package sweep

import (
	"slices"

	"hibernacle/api"
	"hibernacle/heap"
)

// byRoots stands for the place of what an object is come to by, if roots refer
// to it.
const byRoots = -1

// graph is the objects that values reach, in rounds, and what is known of each
// by its place there.
type graph struct {
	objects Rounds[api.Val]
	facts   []fact
}

// fact is what is known of an object.
type fact struct {
	by   int // the place of the first object that refers to it
	away bool
	kind api.ObjKind // none, if it is away
}

// graphOf is the objects that roots reach in a memory.
func graphOf(h *heap.Heap, roots []api.Val) *graph {
	g := &graph{}
	for _, v := range roots {
		g.come(h, v, byRoots)
	}
	for place, v := range g.objects.All() {
		g.follow(h, v, place)
	}
	return g
}

// come has the object be come to that a value refers to, if there is one.
func (g *graph) come(h *heap.Heap, v api.Val, by int) {
	if h.Has(v) && g.objects.See(v) {
		g.facts = append(g.facts, factOf(h, v, by))
	}
}

// follow has all be come to that the object at a place refers to.
func (g *graph) follow(h *heap.Heap, v api.Val, place int) {
	if g.facts[place].away {
		return
	}
	count, _ := h.Size(v)
	for i := range count {
		x, _ := h.At(v, i)
		g.come(h, x, place)
	}
}

// way is the objects by which the one at a place is come to, itself last.
func (g *graph) way(place int) []api.Val {
	var back []api.Val
	for ; place != byRoots; place = g.facts[place].by {
		back = append(back, g.objects.things[place])
	}
	slices.Reverse(back)
	return back
}

// factOf asks what is to be known of an object.
func factOf(h *heap.Heap, v api.Val, by int) fact {
	if h.IsAway(v) {
		// Asked for its kind, memory would fetch it.
		return fact{by: by, away: true}
	}
	kind, _ := h.Kind(v)
	return fact{by: by, kind: kind}
}
