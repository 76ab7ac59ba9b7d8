package heap

import "hibernacle/api"

// maxASCII is the highest byte that can be set in a String.
const maxASCII = 127

// Obj is an object.
func (h *Heap) Obj(v api.Val) (api.Obj, api.Errno) {
	c, e := h.there(v)
	if e != api.OK {
		return api.Obj{}, e
	}
	return copyOf(c.obj), api.OK
}

// Kind is an object's kind.
func (h *Heap) Kind(v api.Val) (api.ObjKind, api.Errno) {
	c, e := h.there(v)
	if e != api.OK {
		return 0, e
	}
	return c.obj.Kind, api.OK
}

// Size is how many values an object has.
func (h *Heap) Size(v api.Val) (int, api.Errno) {
	c, e := h.there(v)
	if e != api.OK {
		return 0, e
	}
	return len(c.obj.Vals), api.OK
}

// At is an object's value.
func (h *Heap) At(v api.Val, i int) (api.Val, api.Errno) {
	c, e := h.there(v)
	switch {
	case e != api.OK:
		return api.Val{}, e
	case i < 0 || i >= len(c.obj.Vals):
		return api.Val{}, api.ErrRange
	}
	return c.obj.Vals[i], api.OK
}

// Set sets an object's value.
func (h *Heap) Set(v api.Val, i int, x api.Val) api.Errno {
	c, e := h.there(v)
	switch {
	case e != api.OK:
		return e
	case i < 0 || i >= len(c.obj.Vals):
		return api.ErrRange
	case !h.mayVal(x):
		return api.ErrArg
	}
	c.obj.Vals[i] = x
	c.changed = true
	return api.OK
}

// Text is an object's bytes.
func (h *Heap) Text(v api.Val) (string, api.Errno) {
	c, e := h.there(v)
	if e != api.OK {
		return "", e
	}
	return string(c.obj.Bytes), api.OK
}

// SetByte sets an object's byte.
func (h *Heap) SetByte(v api.Val, i int, b byte) api.Errno {
	c, e := h.there(v)
	switch {
	case e != api.OK:
		return e
	case i < 0 || i >= len(c.obj.Bytes):
		return api.ErrRange
	case c.obj.Kind == api.String && b > maxASCII:
		return api.ErrArg
	}
	c.obj.Bytes[i] = b
	c.changed = true
	return api.OK
}
