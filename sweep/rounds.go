package sweep

import "iter"

// Rounds is things that are come to, each once, in the order in which they are.
type Rounds[K comparable] struct {
	things []K
	places map[K]int
}

// See has a thing be come to; whether it wasn't yet.
func (r *Rounds[K]) See(k K) bool {
	if r == nil {
		return false
	}
	if _, there, may := r.find(k); there || !may {
		return false
	}
	if r.places == nil {
		r.places = map[K]int{}
	}
	r.places[k] = len(r.things)
	r.things = append(r.things, k)
	return true
}

// Place is a thing's place in the order.
func (r *Rounds[K]) Place(k K) (int, bool) {
	if r == nil {
		return 0, false
	}
	place, there, _ := r.find(k)
	return place, there
}

// Len is how many things were come to.
func (r *Rounds[K]) Len() int {
	if r == nil {
		return 0
	}
	return len(r.things)
}

// All is the things with their places; also those that are come to meanwhile.
func (r *Rounds[K]) All() iter.Seq2[int, K] {
	return func(yield func(int, K) bool) {
		for place := 0; place < r.Len(); place++ {
			if !yield(place, r.things[place]) {
				return
			}
		}
	}
}

// find is a thing's place, and whether it may be held against others at all.
func (r *Rounds[K]) find(k K) (place int, there, may bool) {
	// A thing in an interface may be one that maps refuse by a panic, as a
	// slice: that one is come to by nobody.
	defer func() { _ = recover() }()
	place, there = r.places[k]
	return place, there, true
}
