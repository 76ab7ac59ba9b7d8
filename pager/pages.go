package pager

import (
	"iter"

	"hibernacle/api"
)

// Read is a page's bytes.
func (s *Space) Read(l int) (string, api.Errno) {
	if e := s.refusal(); e != api.OK {
		return "", e
	}
	if page, fresh := s.fresh[l]; fresh {
		return page.data, api.OK
	}
	page, kept := s.kept.Get(l)
	if !kept {
		return "", api.ErrNone
	}
	return readPage(s.disk, page)
}

// Write gives a page its bytes.
func (s *Space) Write(l int, data string) api.Errno {
	if e := s.refusal(); e != api.OK {
		return e
	}
	switch {
	case !s.has(l):
		return api.ErrNone
	case len(data) != api.Page:
		return api.ErrArg
	}
	s.put(l, data)
	return api.OK
}

// Alloc has one page more.
func (s *Space) Alloc() (int, api.Errno) {
	if e := s.refusal(); e != api.OK {
		return 0, e
	}
	for l := range api.MaxPages {
		if !s.has(l) {
			s.put(l, string(make([]byte, api.Page)))
			return l, api.OK
		}
	}
	return 0, api.ErrFull
}

// Drop has a page no more.
func (s *Space) Drop(l int) api.Errno {
	if e := s.refusal(); e != api.OK {
		return e
	}
	if !s.has(l) {
		return api.ErrNone
	}
	s.kept.Drop(l)
	delete(s.fresh, l)
	s.changed = true
	return api.OK
}

// All is the logical pages.
func (s *Space) All() iter.Seq[int] {
	// What is told stays as it is, whatever the space is changed to: also
	// amid the loop.
	var row []int
	for l := range api.MaxPages {
		if s.has(l) {
			row = append(row, l)
		}
	}
	return func(yield func(l int) bool) {
		for _, l := range row {
			if !yield(l) {
				return
			}
		}
	}
}

// Len is how many pages there are.
func (s *Space) Len() int {
	if s == nil {
		return 0
	}
	return s.kept.Len() + len(s.fresh)
}

// has tells whether there is a page.
func (s *Space) has(l int) bool {
	if s == nil {
		return false
	}
	_, fresh := s.fresh[l]
	_, kept := s.kept.Get(l)
	return fresh || kept
}

// put has a page with bytes, in memory alone.
func (s *Space) put(l int, data string) {
	s.kept.Drop(l)
	s.fresh[l] = content{data}
	s.changed = true
}
