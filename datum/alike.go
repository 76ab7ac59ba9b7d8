package datum

import (
	"hibernacle/api"
	"hibernacle/heap"
)

// Alike tells whether two values are.
func Alike(h *heap.Heap, a, b api.Val) bool {
	s := &sides{h: h, held: map[[2]api.Val]int{}, leads: map[api.Val]api.Val{}}
	if !s.hold(a, b) {
		return false
	}
	for i := 0; i < len(s.order); i++ {
		if !s.open(s.order[i]) {
			return false
		}
	}
	return true
}

// sides is what is held against what, till it is known whether two values are
// alike.
type sides struct {
	h *heap.Heap
	// held are the values that were held against each other, and count as
	// alike, by their place in the order in which they were.
	held  map[[2]api.Val]int
	order [][2]api.Val
	// leads join what counts as alike, by way of others, too: each value but one
	// of those that do has one here on the way to that one. Without them a ring
	// of p and one of q pairs would be held against each other in p times q
	// ways.
	leads map[api.Val]api.Val
}

// hold holds a value against another one; whether they may be alike, as far as
// can be told without the values of both.
func (s *sides) hold(a, b api.Val) bool {
	key := [2]api.Val{a, b}
	if _, was := s.held[key]; was {
		return true
	}
	x, y := s.lead(a), s.lead(b)
	if x == y {
		return true
	}
	if !s.match(a, b) {
		return false
	}
	s.leads[y] = x
	s.held[key] = len(s.order)
	s.order = append(s.order, key)
	return true
}

// lead is the one value that leads those that count as alike a value.
func (s *sides) lead(v api.Val) api.Val {
	for {
		next, led := s.leads[v]
		if !led {
			return v
		}
		// The way is halved each time, so that none gets long.
		if over, led := s.leads[next]; led {
			s.leads[v] = over
		}
		v = next
	}
}

// match tells whether objects that aren't the same are of one kind, with the
// same bytes, or as many values.
func (s *sides) match(a, b api.Val) bool {
	kind, e := s.h.Kind(a)
	if e != api.OK {
		return false
	}
	if other, e := s.h.Kind(b); e != api.OK || other != kind {
		return false
	}
	switch kind {
	case api.String, api.Bytes:
		x, _ := s.h.Text(a)
		y, _ := s.h.Text(b)
		return x == y
	case api.Pair, api.Vector:
		x, _ := s.h.Size(a)
		y, _ := s.h.Size(b)
		return x == y
	}
	return false
}

// open holds the values of two objects, that are as many, against each other.
func (s *sides) open(both [2]api.Val) bool {
	size, _ := s.h.Size(both[0])
	for i := range size {
		x, _ := s.h.At(both[0], i)
		y, _ := s.h.At(both[1], i)
		if !s.hold(x, y) {
			return false
		}
	}
	return true
}
