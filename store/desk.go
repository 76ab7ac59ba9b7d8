package store

import (
	"maps"
	"slices"

	"hibernacle/api"
	"hibernacle/slot"
)

// desk has the pages with records that a call works on, each of them once, by
// their numbers: what is changed there is kept when the desk is cleared.
type desk struct {
	store *Store
	pages map[int]*slot.Page
}

// thing is a thing as it is found: where its record lies, the pages that have
// its bytes if it is a long one, and its bytes.
type thing struct {
	at    spot
	pages []int
	data  string
}

// desk is an empty one.
func (s *Store) desk() desk {
	return desk{store: s, pages: map[int]*slot.Page{}}
}

// page is a page with records.
func (d desk) page(l int) (*slot.Page, api.Errno) {
	if p, there := d.pages[l]; there {
		return p, api.OK
	}
	text, e := d.store.read(l)
	if e != api.OK {
		return nil, e
	}
	p, e := slot.Parse(text)
	if e != api.OK {
		return nil, api.ErrHarm
	}
	d.pages[l] = p
	return p, api.OK
}

// thing is the one whose record lies at a spot.
func (d desk) thing(at spot) (thing, api.Errno) {
	p, e := d.page(at.page())
	if e != api.OK {
		return thing{}, e
	}
	text, _ := p.Get(at.slot())
	r, ok := recordOf(text)
	if !ok {
		return thing{}, api.ErrHarm
	}
	if len(r.pages) == 0 {
		return thing{at: at, data: r.data}, api.OK
	}
	data, e := d.store.long(r)
	if e != api.OK {
		return thing{}, e
	}
	return thing{at: at, pages: r.pages, data: data}, api.OK
}

// sure asks that a number's part, and the page that its record comes into,
// are what they must be.
func (d desk) sure(n, page int) api.Errno {
	if e := d.store.sure(n); e != api.OK || page == noPage {
		return e
	}
	p, e := d.page(page)
	if e == api.OK && p.Room() != d.store.rooms[page] {
		return api.ErrHarm
	}
	return e
}

// lay has a number tell a record that has data, in a page with records, or in
// a new one if that is none. What may hinder it was asked ahead: there are
// pages enough, and the space isn't gone.
func (d desk) lay(n, page int, data string) {
	s := d.store
	if s.lacksPart(n) {
		s.addPart()
	}
	var pages []int
	if pagesFor(len(data)) > 0 {
		for _, chunk := range chunks(data) {
			pages = append(pages, s.newPage(chunk))
		}
	}
	if page == noPage {
		page = s.newPage(slot.New().Bytes())
		d.pages[page] = slot.New()
	}
	i, _ := d.pages[page].Add(recordText(data, pages))
	s.tell(n, spotOf(page, i))
}

// drop has a thing's record, and the pages that have its bytes, no more.
func (d desk) drop(t thing) {
	d.pages[t.at.page()].Drop(t.at.slot())
	for _, l := range t.pages {
		d.store.space.Drop(l)
	}
}

// clear keeps the pages as they are now; those that have nothing any more
// are dropped.
func (d desk) clear() {
	for _, l := range slices.Sorted(maps.Keys(d.pages)) {
		p := d.pages[l]
		if p.Len() == 0 {
			d.store.space.Drop(l)
			delete(d.store.rooms, l)
			continue
		}
		d.store.space.Write(l, p.Bytes())
		d.store.rooms[l] = p.Room()
	}
}
