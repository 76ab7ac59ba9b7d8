package store

import (
	"maps"
	"slices"

	"hibernacle/api"
)

// noPage stands for the page that a record comes into where none has room.
const noPage = -1

// read is a page that the store's pages tell, so that it is harm if there is
// none.
func (s *Store) read(l int) (string, api.Errno) {
	text, e := s.space.Read(l)
	if e == api.ErrNone {
		return "", api.ErrHarm
	}
	return text, e
}

// long is a long thing's bytes.
func (s *Store) long(r record) (string, api.Errno) {
	var texts []string
	for _, l := range r.pages {
		text, e := s.read(l)
		if e != api.OK {
			return "", e
		}
		texts = append(texts, text)
	}
	data, ok := joined(texts, r.size)
	if !ok {
		return "", api.ErrHarm
	}
	return data, api.OK
}

// sure asks that the head, and a number's part if there is one, are what they
// must be.
func (s *Store) sure(n int) api.Errno {
	if e := s.same(headPage, headText(s.parts)); e != api.OK || s.lacksPart(n) {
		return e
	}
	i, _ := placeOf(n)
	return s.same(s.parts[i].page, s.parts[i].text())
}

// same asks that a page has a text.
func (s *Store) same(l int, text string) api.Errno {
	has, e := s.read(l)
	if e == api.OK && has != text {
		return api.ErrHarm
	}
	return e
}

// roomy is the page with records that the record of a thing of so many bytes
// comes into.
func (s *Store) roomy(size int) int {
	for _, l := range slices.Sorted(maps.Keys(s.rooms)) {
		if recordSize(size) <= s.rooms[l] {
			return l
		}
	}
	return noPage
}

// lacks tells whether there aren't pages enough for a thing of so many bytes
// whose record comes into a page.
func (s *Store) lacks(n, page, size int) bool {
	need := pagesFor(size)
	if s.lacksPart(n) {
		need++
	}
	if page == noPage {
		need++
	}
	return need > api.MaxPages-s.space.Len()
}

// lacksPart tells whether there is no part yet for a number.
func (s *Store) lacksPart(n int) bool {
	return n > len(s.parts)*perPart
}

// addPart has one part more, that tells nothing.
func (s *Store) addPart() {
	p := part{}
	p.page = s.newPage(p.text())
	s.parts = append(s.parts, p)
	s.space.Write(headPage, headText(s.parts))
}

// newPage is a new page with a text.
func (s *Store) newPage(text string) int {
	l, _ := s.space.Alloc()
	s.space.Write(l, text)
	return l
}

// tell has a number's record be at a spot.
func (s *Store) tell(n int, at spot) {
	i, j := placeOf(n)
	s.parts[i].spots[j] = at
	s.space.Write(s.parts[i].page, s.parts[i].text())
}
