package store

import "hibernacle/api"

// Get is a thing's bytes.
func (s *Store) Get(n int) (string, api.Errno) {
	_, t, e := s.find(n)
	return t.data, e
}

// Add has one thing more.
func (s *Store) Add(data string) (int, api.Errno) {
	if e := s.refusal(); e != api.OK {
		return 0, e
	}
	n, page := s.bare(), s.roomy(len(data))
	switch {
	case len(data) > maxThing:
		return 0, api.ErrLong
	case n > maxNumber || s.lacks(n, page, len(data)):
		return 0, api.ErrFull
	}
	d := s.desk()
	if e := d.sure(n, page); e != api.OK {
		return 0, e
	}
	d.lay(n, page, data)
	d.clear()
	return n, api.OK
}

// Put has other bytes for a thing.
func (s *Store) Put(n int, data string) api.Errno {
	if e := s.refusal(); e != api.OK {
		return e
	}
	page := s.roomy(len(data))
	switch {
	case s.spot(n) == nowhere:
		return api.ErrNone
	case len(data) > maxThing:
		return api.ErrLong
	case s.lacks(n, page, len(data)):
		return api.ErrFull
	}
	d, old, e := s.find(n)
	if e != api.OK {
		return e
	}
	if e := d.sure(n, page); e != api.OK {
		return e
	}
	d.lay(n, page, data)
	d.drop(old)
	d.clear()
	return api.OK
}

// Drop has a thing no more.
func (s *Store) Drop(n int) api.Errno {
	d, old, e := s.find(n)
	if e != api.OK {
		return e
	}
	s.tell(n, nowhere)
	d.drop(old)
	d.clear()
	return api.OK
}

// Clear drops all things, and the table's parts.
func (s *Store) Clear() api.Errno {
	if e := s.refusal(); e != api.OK {
		return e
	}
	if e := s.same(headPage, headText(s.parts)); e != api.OK {
		return e
	}
	for l := range s.space.All() {
		if l != headPage {
			s.space.Drop(l)
		}
	}
	s.space.Write(headPage, headText(nil))
	*s = *newStore(s.space)
	return api.OK
}

// find is a thing, and the desk that its record lies on.
func (s *Store) find(n int) (desk, thing, api.Errno) {
	if e := s.refusal(); e != api.OK {
		return desk{}, thing{}, e
	}
	at := s.spot(n)
	if at == nowhere {
		return desk{}, thing{}, api.ErrNone
	}
	if e := s.sure(n); e != api.OK {
		return desk{}, thing{}, e
	}
	d := s.desk()
	t, e := d.thing(at)
	return d, t, e
}
