package store

import (
	"hibernacle/api"
	"hibernacle/pager"
)

// role is what a page is of a store's.
type role int

const (
	ofHead role = iota
	ofTable
	ofRecords
	ofBytes
)

// claims tell which pages and which spots were told already.
type claims struct {
	pages map[int]role
	spots map[spot]struct{}
}

// Open is the store in a space.
func Open(sp *pager.Space) (*Store, api.Errno) {
	head, e := sp.Read(headPage)
	if e != api.OK {
		return nil, e
	}
	parts, ok := partsOf(head)
	if !ok {
		return nil, api.ErrHarm
	}
	s := newStore(sp)
	s.parts = parts
	c := claims{map[int]role{headPage: ofHead}, map[spot]struct{}{}}
	if e := s.loadTable(c); e != api.OK {
		return nil, e
	}
	if e := s.loadThings(c); e != api.OK {
		return nil, e
	}
	return s, api.OK
}

// loadTable has the parts tell what their pages do.
func (s *Store) loadTable(c claims) api.Errno {
	for i := range s.parts {
		p := &s.parts[i]
		if !c.page(p.page, ofTable) {
			return api.ErrHarm
		}
		text, e := s.read(p.page)
		if e != api.OK {
			return e
		}
		p.spots = spotsOf(text)
	}
	return api.OK
}

// loadThings asks that each thing is one, and that no page and no slot is
// told twice: the one would be lost when the other is dropped.
func (s *Store) loadThings(c claims) api.Errno {
	d := s.desk()
	for n := range s.All() {
		at := s.spot(n)
		if !c.spot(at) {
			return api.ErrHarm
		}
		t, e := d.thing(at)
		if e != api.OK {
			return e
		}
		for _, l := range t.pages {
			if !c.page(l, ofBytes) {
				return api.ErrHarm
			}
		}
	}
	for l, p := range d.pages {
		s.rooms[l] = p.Room()
	}
	return api.OK
}

// page has a page be of a role, and tells whether it may: only one with
// records is told more than once.
func (c claims) page(l int, r role) bool {
	was, told := c.pages[l]
	c.pages[l] = r
	return !told || was == r && r == ofRecords
}

// spot has a spot told, and tells whether it may be.
func (c claims) spot(at spot) bool {
	_, told := c.spots[at]
	c.spots[at] = struct{}{}
	return !told && c.page(at.page(), ofRecords)
}
