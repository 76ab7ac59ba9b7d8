package heap

import "maps"

// Clone is a memory by itself.
func (h *Heap) Clone() *Heap {
	if h == nil {
		return nil
	}
	other := *h
	other.cells = make([]*cell, len(h.cells))
	for place, c := range h.cells {
		if c != nil {
			other.cells[place] = c.clone()
		}
	}
	other.numbers = maps.Clone(h.numbers)
	other.fetching = 0
	return &other
}

// Become has a memory be as another one.
func (h *Heap) Become(o *Heap) bool {
	if h == nil || o == nil {
		return false
	}
	// The fetches that are under way in this memory are so still.
	under := h.fetching
	*h = *o.Clone()
	h.fetching = under
	return true
}

// clone is a cell by itself.
func (c *cell) clone() *cell {
	other := *c
	other.obj = copyOf(c.obj)
	return &other
}
