package bits

import "iter"

// All is a set's numbers.
func (s *Set[T]) All() iter.Seq[T] {
	// What is told stays as it is, whatever the set is changed to: also amid
	// the loop.
	told := s.twin()
	return func(yield func(T) bool) {
		for i := told.Next(0); i != nowhere; i = told.Next(i + 1) {
			if !yield(i) {
				return
			}
		}
	}
}

// Runs is a set's runs.
func (s *Set[T]) Runs() iter.Seq2[T, int] {
	told := s.twin()
	return func(yield func(T, int) bool) {
		for i := told.Next(0); i != nowhere; {
			end := told.end(i)
			if !yield(i, int(end-i)) {
				return
			}
			i = told.Next(end)
		}
	}
}

// end is the number behind a run, which is the size if it has no other one.
func (s *Set[T]) end(i T) T {
	if gap := s.Gap(i); gap != nowhere {
		return gap
	}
	return T(s.Size())
}
