package print

import (
	"hibernacle/api"
	"hibernacle/heap"
)

// graph is what is come to from a value on by what is written.
type graph struct {
	// objs are the objects as they were when they were first come to: what is
	// written of them can then be no more than what was counted. Those that are
	// gone aren't in it.
	objs map[api.Val]api.Obj
	// times is how often each Ref was come to.
	times map[api.Val]int
	// order is the Refs as they are first written.
	order []api.Val
}

// comeTo goes over all that is come to from a value on.
func comeTo(h *heap.Heap, v api.Val) *graph {
	g := &graph{objs: map[api.Val]api.Obj{}, times: map[api.Val]int{}}
	var come func(v api.Val)
	come = func(v api.Val) {
		if v.K != api.Ref {
			return
		}
		g.times[v]++
		if g.times[v] > 1 {
			return
		}
		g.order = append(g.order, v)
		o, e := h.Obj(v)
		if e != api.OK {
			return
		}
		g.objs[v] = o
		if o.Kind == api.Pair || o.Kind == api.Vector {
			for _, x := range o.Vals {
				come(x)
			}
		}
	}
	come(v)
	return g
}

// isMarked tells whether what a Ref refers to is marked.
func (g *graph) isMarked(v api.Val) bool {
	o, there := g.objs[v]
	if !there || g.times[v] < 2 {
		return false
	}
	switch o.Kind {
	case api.Pair, api.Vector, api.String, api.Bytes:
		return true
	}
	return false
}

// next is the pair that a chain goes on with, if a value refers to such a one: a
// marked one is written by itself.
func (g *graph) next(v api.Val) (api.Obj, bool) {
	o, there := g.objs[v]
	if !there || o.Kind != api.Pair || g.isMarked(v) {
		return api.Obj{}, false
	}
	return o, true
}
