package heap

import "hibernacle/api"

// Turn gives all objects with a number the one that theirs is turned to; 0:
// none.
func (h *Heap) Turn(to func(n int) int) api.Errno {
	if h == nil || to == nil {
		return api.ErrArg
	}
	turned := h.turned(to)
	numbers, e := h.places(turned)
	if e != api.OK {
		return e
	}
	h.numbers = numbers
	for _, c := range h.cells {
		if c == nil || c.number == none {
			continue
		}
		c.number = turned[c.number]
		c.changed = c.changed || c.number == none
	}
	return api.OK
}

// turned tells for each number that an object has the one that it is turned
// to. Who is asked may ask memory in turn, and by that have objects come with
// numbers of their own: all are asked for ahead of what follows.
func (h *Heap) turned(to func(n int) int) map[int]int {
	turned := map[int]int{}
	for more := true; more; {
		more = false
		for place := 0; place < len(h.cells); place++ {
			n := h.Number(refTo(place))
			if _, was := turned[n]; n != none && !was {
				turned[n], more = to(n), true
			}
		}
	}
	return turned
}

// places are those of the objects that will have numbers, by these; the error
// is that of the object at the least place.
func (h *Heap) places(turned map[int]int) (map[int]int, api.Errno) {
	places := map[int]int{}
	for place, c := range h.cells {
		if c == nil || c.number == none {
			continue
		}
		n := turned[c.number]
		_, twice := places[n]
		switch {
		case n == none && c.away:
			return nil, api.ErrState
		case n == none:
			continue
		case !isNumber(n):
			return nil, api.ErrRange
		case twice:
			return nil, api.ErrTwice
		}
		places[n] = place
	}
	return places, api.OK
}
