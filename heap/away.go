package heap

import "hibernacle/api"

// Fetch tells by what objects are fetched.
func (h *Heap) Fetch(by func(n int) (api.Obj, api.Errno)) {
	if h != nil {
		h.by = by
	}
}

// Away is the object with a number.
func (h *Heap) Away(n int) (api.Val, api.Errno) {
	switch {
	case h == nil:
		return api.Val{}, api.ErrArg
	case !isNumber(n):
		return api.Val{}, api.ErrRange
	}
	if v, there := h.Find(n); there {
		return v, api.OK
	}
	if h.full() {
		return api.Val{}, api.ErrFull
	}
	place := h.lay(&cell{away: true})
	h.renumber(place, n)
	return refTo(place), api.OK
}

// IsAway tells whether an object is away.
func (h *Heap) IsAway(v api.Val) bool {
	c := h.cell(v)
	return c != nil && c.away
}

// Changed tells whether an object is changed.
func (h *Heap) Changed(v api.Val) bool {
	c := h.cell(v)
	return c != nil && c.changed
}

// Send has an object go away, if it can be fetched again.
func (h *Heap) Send(v api.Val) bool {
	c := h.cell(v)
	if c == nil || c.number == none || c.changed {
		return false
	}
	c.obj, c.away = api.Obj{}, true
	return true
}

// there is the object that a value refers to, fetched if it was away.
func (h *Heap) there(v api.Val) (*cell, api.Errno) {
	if h == nil {
		return nil, api.ErrArg
	}
	c := h.cell(v)
	if c == nil {
		return nil, api.ErrNone
	}
	if !c.away {
		return c, api.OK
	}
	if e := h.fetch(c); e != api.OK {
		return nil, e
	}
	if h.cell(v) != c {
		// Who fetched it has dropped it meanwhile.
		return nil, api.ErrNone
	}
	return c, api.OK
}

// fetch has an object be there that is away.
func (h *Heap) fetch(c *cell) api.Errno {
	// More fetches within one another than there can be objects: one of them
	// is asked for by its own fetching, and would be so without end.
	if h.by == nil || h.fetching == api.MaxCells {
		return api.ErrState
	}
	h.fetching++
	o, e := h.by(c.number)
	h.fetching--
	switch {
	case e != api.OK:
		return e
	case !h.mayObj(o):
		return api.ErrHarm
	case c.away:
		c.obj, c.away = copyOf(o), false
	}
	return api.OK
}
