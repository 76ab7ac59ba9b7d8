package heap

import "hibernacle/api"

// none stands for the number of an object that has none.
const none = 0

// isNumber tells whether an object may have a number.
func isNumber(n int) bool {
	return none < n && n <= api.MaxCells
}

// Keep tells an object as kept by a number.
func (h *Heap) Keep(v api.Val, n int) api.Errno {
	c := h.cell(v)
	switch {
	case h == nil:
		return api.ErrArg
	case c == nil:
		return api.ErrNone
	case !isNumber(n):
		return api.ErrRange
	}
	if other, there := h.Find(n); there && other != v {
		return api.ErrTwice
	}
	h.renumber(v.N, n)
	c.changed = false
	return api.OK
}

// Number is an object's number.
func (h *Heap) Number(v api.Val) int {
	c := h.cell(v)
	if c == nil {
		return none
	}
	return c.number
}

// Find is the object with a number, if it is there.
func (h *Heap) Find(n int) (api.Val, bool) {
	if h == nil {
		return api.Val{}, false
	}
	place, there := h.numbers[n]
	if !there {
		return api.Val{}, false
	}
	return refTo(place), true
}

// Forget takes an object's number away; it is changed from then on.
func (h *Heap) Forget(v api.Val) bool {
	c := h.cell(v)
	if c == nil || c.away {
		return false
	}
	h.renumber(v.N, none)
	c.changed = true
	return true
}

// renumber has the object at a place have a number, and no other one.
func (h *Heap) renumber(place, n int) {
	c := h.cells[place]
	delete(h.numbers, c.number)
	c.number = n
	if n != none {
		h.numbers[n] = place
	}
}
