package enc

import (
	"bytes"
	"math/bits"
	"slices"

	"hibernacle/api"
)

const (
	countBits   = 63
	doubledBits = 64
)

// cursor stands ahead of the bytes that weren't gone past.
type cursor struct {
	rest  []byte
	fault api.Errno
}

// findNumber tells the next number, of so many bits at most, and how many
// bytes it has; nothing is gone past.
func (c *cursor) findNumber(most int) (uint64, int, api.Errno) {
	// Its last byte is looked for ahead of all else, because that it is
	// lacking counts before any fault of the number's form.
	last := slices.IndexFunc(c.rest, func(one byte) bool { return one < goesOn })
	if last < 0 {
		return 0, 0, api.ErrEnd
	}
	n := uint64(c.rest[last])
	if n == 0 && last > 0 {
		return 0, 0, api.ErrForm
	}
	// The bytes need not be counted: as the last one isn't 0, a number of
	// more than ten has more than 64 bits.
	for _, one := range slices.Backward(c.rest[:last]) {
		if bits.Len64(n) > most-held {
			return 0, 0, api.ErrForm
		}
		n = n<<held | uint64(one-goesOn)
	}
	return n, last + 1, api.OK
}

// findCount tells the next count as findNumber does, and refuses one above
// most.
func (c *cursor) findCount(most int) (int, int, api.Errno) {
	// Asked for at first: whatever comes, no count is below 0.
	if most < 0 {
		return 0, 0, api.ErrRange
	}
	n, size, e := c.findNumber(countBits)
	if n > uint64(most) {
		return 0, 0, api.ErrRange
	}
	return int(n), size, e
}

// pass goes past so many bytes, but past none of what is at fault.
func (c *cursor) pass(size int, e api.Errno) {
	if e != api.OK {
		c.fault = e
		return
	}
	c.rest = c.rest[size:]
}

// Reader takes things off bytes.
type Reader struct {
	cursor
}

// Read is a reader of a copy of bytes.
func Read(b []byte) *Reader {
	return &Reader{cursor{rest: bytes.Clone(b)}}
}

// Byte takes a byte.
func (r *Reader) Byte() byte {
	if r.Fault() != api.OK {
		return 0
	}
	if len(r.rest) == 0 {
		r.pass(0, api.ErrEnd)
		return 0
	}
	one := r.rest[0]
	r.pass(1, api.OK)
	return one
}

// Count takes a count that isn't above most.
func (r *Reader) Count(most int) int {
	if r.Fault() != api.OK {
		return 0
	}
	n, size, e := r.findCount(most)
	r.pass(size, e)
	return n
}

// Whole takes a whole number.
func (r *Reader) Whole() int {
	if r.Fault() != api.OK {
		return 0
	}
	n, size, e := r.findNumber(doubledBits)
	r.pass(size, e)
	return halved(n)
}

// Sized takes sized bytes, no more than most.
func (r *Reader) Sized(most int) []byte {
	if r.Fault() != api.OK {
		return nil
	}
	n, size, e := r.findCount(most)
	if n > len(r.rest)-size {
		e = api.ErrEnd
	}
	if e != api.OK {
		r.pass(0, e)
		return nil
	}
	data := bytes.Clone(r.rest[size : size+n])
	r.pass(size+n, api.OK)
	return data
}

// Left is how many bytes weren't gone past.
func (r *Reader) Left() int {
	if r == nil {
		return 0
	}
	return len(r.rest)
}

// Fault is the first error.
func (r *Reader) Fault() api.Errno {
	if r == nil {
		return api.ErrArg
	}
	return r.fault
}

// End asks that no byte is left.
func (r *Reader) End() api.Errno {
	if r.Fault() == api.OK && r.Left() > 0 {
		r.pass(0, api.ErrForm)
	}
	return r.Fault()
}
