package bits

import "bytes"

// Or is what one of two sets has.
func (s *Set[T]) Or(o *Set[T]) *Set[T] {
	return s.with(o, func(a, b byte) byte { return a | b })
}

// Less is what a set has, and another one hasn't.
func (s *Set[T]) Less(o *Set[T]) *Set[T] {
	return s.with(o, func(a, b byte) byte { return a &^ b })
}

// Same tells whether two sets are.
func (s *Set[T]) Same(o *Set[T]) bool {
	if s == nil || o == nil {
		return s == o
	}
	return s.size == o.size && bytes.Equal(s.row, o.row)
}

// with is a set by itself of the size of s, put together byte by byte of s
// and of what another one has within that size.
func (s *Set[T]) with(o *Set[T], join func(a, b byte) byte) *Set[T] {
	if s == nil {
		return nil
	}
	c := fit[T](s.size, o.Bytes())
	for at, b := range c.row {
		c.row[at] = join(s.row[at], b)
	}
	return c
}

// twin is a set by itself that has the same numbers.
func (s *Set[T]) twin() *Set[T] {
	if s == nil {
		return nil
	}
	return fit[T](s.size, s.row)
}
