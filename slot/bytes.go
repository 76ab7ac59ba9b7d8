package slot

import (
	"strings"

	"hibernacle/api"
)

const (
	// A page's bytes are how many slots there are, the slots, the records,
	// and zeros.
	slotsAt   = 1
	slotBytes = 2
)

// Parse is the page of bytes.
func Parse(b string) (*Page, api.Errno) {
	switch {
	case len(b) < api.Page:
		return nil, api.ErrEnd
	case len(b) > api.Page:
		return nil, api.ErrLong
	}
	sizes, ok := sizesOf(b)
	if !ok {
		return nil, api.ErrForm
	}
	p := New()
	rest := b[behind(len(sizes)):]
	for _, size := range sizes {
		n := max(size-1, 0)
		if n > min(maxRec, len(rest)) {
			return nil, api.ErrForm
		}
		p.slots = append(p.slots, slot{full: size > 0, rec: rest[:n]})
		rest = rest[n:]
	}
	if strings.Trim(rest, "\x00") != "" {
		return nil, api.ErrForm
	}
	return p, api.OK
}

// sizesOf is what a page's bytes tell of each slot's record, and whether a
// page may have such slots.
func sizesOf(b string) ([]int, bool) {
	n := int(b[0])
	if n > maxSlots {
		return nil, false
	}
	sizes := make([]int, n)
	for i := range sizes {
		at := behind(i)
		sizes[i] = int(b[at])<<8 | int(b[at+1])
	}
	return sizes, n == 0 || sizes[n-1] > 0
}

// Bytes is a page's bytes.
func (p *Page) Bytes() string {
	if p == nil {
		return ""
	}
	b := []byte{byte(len(p.slots))}
	for _, s := range p.slots {
		size := s.size()
		b = append(b, byte(size>>8), byte(size))
	}
	for _, s := range p.slots {
		b = append(b, s.rec...)
	}
	return string(append(b, make([]byte, p.left())...))
}

// size is what a page's bytes tell of a slot: 0 of a bare one, so that the
// length of an empty record has to be more.
func (s slot) size() int {
	if !s.full {
		return 0
	}
	return len(s.rec) + 1
}

// left is how many bytes a page's slots and records leave.
func (p *Page) left() int {
	left := api.Page - behind(len(p.slots))
	for _, s := range p.slots {
		left -= len(s.rec)
	}
	return left
}

// behind is where a page's bytes go on behind so many slots.
func behind(slots int) int {
	return slotsAt + slots*slotBytes
}
